/- Texts of this proof, part j: words, plain facts, contracts. -/
import Derived.Test.YtbffkidkfannhaaMGoodReplicai
import Derived.Test.YtbffkidkfannhaaMGoodReplicac
import Derived.Test.YtbffkidkfannhaaMGoodReplicaf
import Derived.Test.YtbffkidkfannhaaMGoodReplicag
import Derived.Test.YtbffkidkfannhaaMGoodReplicaa
import Derived.Maps.RangeWalk
import Derived.Maps.OwnSet
import Derived.Maps.OwnOps
import Derived.DeepKeys5
import Derived.Test.YtbffkidkfannhaaMGoodReplicad
import Derived.Test.YtbffkidkfannhaaMGoodReplicab

namespace Go.Proofs.Ytbffkidkfannhaa
open Go.RowKit
set_option linter.unusedVariables false

theorem goodA_grp {n s : Int} {l : List Int} (hn : isGrp n = true) : goodA n s l = goodD n s l := by unfold goodA; rw [hn, Bool.true_and]
theorem noneD_good {n : Int} (hn : isGrp n = true) : goodD n 0 (noneL n) = true := by rcases isGrp_of hn with rfl | rfl <;> rfl
theorem sameA_none {n s : Int} {l : List Int} (hn : isGrp n = true) (h : sameA s 0 l (noneL n) = true) : goodD n s l = true := by
  unfold sameA at h
  simp only [Bool.and_eq_true, beq_iff_eq, decide_eq_true_eq] at h
  rw [h.1, h.2]
  exact noneD_good hn
theorem lead_no0 {n me : Int} {d : LeadD} (h : instB n d.rp d.no = false) : leadB n me d = false := by unfold leadB headL; rw [h]; rfl
theorem lead_no1 {n me : Int} {d : LeadD} (h : inB d.bl 0 9999 = false) : leadB n me d = false := by unfold leadB headL; rw [h]; simp
theorem lead_no2 {n me : Int} {d : LeadD} (h : (riseB d.who 0 (n - 1) && hasI d.who me) = false) : leadB n me d = false := by
  unfold leadB headL
  rw [← Bool.and_assoc (riseB d.who 0 (n - 1)), h]
  simp
theorem lead_yes {n me : Int} {d : LeadD} (h0 : instB n d.rp d.no = true) (h1 : inB d.bl 0 9999 = true) (h2 : (riseB d.who 0 (n - 1) && hasI d.who me) = true) :
    leadB n me d = ((goodD n d.s1 d.l1 && goodD n d.s2 d.l2) && (d.seen.all (toldB n) && phaseL n d)) := by
  rw [Bool.and_eq_true] at h2
  unfold leadB headL
  rw [h0, h1, h2.1, h2.2]
  simp only [Bool.true_and]
theorem lead_ph1 {n me : Int} {d : LeadD} (hn : isGrp n = true) (h0 : instB n d.rp d.no = true) (h1 : inB d.bl 0 9999 = true) (h2 : (riseB d.who 0 (n - 1) && hasI d.who me) = true) (hp : d.ph = 1) : leadB n me d = propB n d := by
  have hph : phaseL n d = (goodB d.k d.i d.f d.t d.a && decide (d.seen.length = 0)) := by unfold phaseL; rw [if_pos hp]
  unfold propB
  rw [lead_yes h0 h1 h2, hph, goodA_grp hn, goodA_grp hn]
  generalize goodB d.k d.i d.f d.t d.a = a
  generalize goodD n d.s1 d.l1 = b
  generalize goodD n d.s2 d.l2 = c
  by_cases hs : d.seen.length = 0
  · rw [List.eq_nil_of_length_eq_zero hs, List.all_nil]
    revert a b c; decide
  · rw [decide_eq_false hs]
    generalize d.seen.all (toldB n) = t
    revert a b c t; decide
theorem lead_ph2 {n me : Int} {d : LeadD} (hn : isGrp n = true) (h0 : instB n d.rp d.no = true) (h1 : inB d.bl 0 9999 = true) (h2 : (riseB d.who 0 (n - 1) && hasI d.who me) = true) (hp : d.ph = 2) : leadB n me d = (propB n d && (sameA d.s1 d.s2 d.l1 d.l2 && !d.sm)) := by
  have hph : phaseL n d = (goodB d.k d.i d.f d.t d.a && (decide (d.seen.length = 0) && (!d.sm && sameA d.s1 d.s2 d.l1 d.l2))) := by unfold phaseL; rw [if_neg (by omega), if_pos hp]
  unfold propB
  rw [lead_yes h0 h1 h2, hph, goodA_grp hn, goodA_grp hn]
  generalize goodB d.k d.i d.f d.t d.a = a
  generalize goodD n d.s1 d.l1 = b
  generalize goodD n d.s2 d.l2 = c
  generalize sameA d.s1 d.s2 d.l1 d.l2 = e
  generalize d.sm = m
  by_cases hs : d.seen.length = 0
  · rw [List.eq_nil_of_length_eq_zero hs, List.all_nil]
    revert a b c e m; decide
  · rw [decide_eq_false hs]
    generalize d.seen.all (toldB n) = t
    revert a b c e m t; decide
theorem lead_ph3 {n me : Int} {d : LeadD} (hn : isGrp n = true) (h0 : instB n d.rp d.no = true) (h1 : inB d.bl 0 9999 = true) (h2 : (riseB d.who 0 (n - 1) && hasI d.who me) = true) (hp : d.ph = 3) : leadB n me d = (sameC d.k d.i d.f d.t d.a 0 0 0 0 0 && (sameA d.s1 0 d.l1 (noneL n) && (sameA d.s2 0 d.l2 (noneL n) && (!d.sm && (decide (d.seen.length = d.who.length) && d.seen.all (toldB n)))))) := by
  have hph : phaseL n d = (sameC d.k d.i d.f d.t d.a 0 0 0 0 0 && (sameA d.s1 0 d.l1 (noneL n) && (sameA d.s2 0 d.l2 (noneL n) && (!d.sm && decide (d.seen.length = d.who.length))))) := by unfold phaseL; rw [if_neg (by omega), if_neg (by omega), if_pos hp]
  rw [lead_yes h0 h1 h2, hph]
  cases e1 : sameA d.s1 0 d.l1 (noneL n) with
  | false => simp
  | true =>
    cases e2 : sameA d.s2 0 d.l2 (noneL n) with
    | false => simp
    | true =>
      rw [sameA_none hn e1, sameA_none hn e2]
      generalize sameC d.k d.i d.f d.t d.a 0 0 0 0 0 = a
      generalize decide (d.seen.length = d.who.length) = b
      generalize d.seen.all (toldB n) = c
      generalize d.sm = m
      revert a b c m; decide
theorem lead_ph0 {n me : Int} {d : LeadD} (hp : d.ph ≠ 1 ∧ d.ph ≠ 2 ∧ d.ph ≠ 3) : leadB n me d = false := by
  have hph : phaseL n d = false := by unfold phaseL; rw [if_neg hp.1, if_neg hp.2.1, if_neg hp.2.2]
  unfold leadB
  rw [hph, Bool.and_false, Bool.and_false]

set_option maxHeartbeats 8000000 in
set_option maxRecDepth 100000 in
theorem isGoodLead_0 (n me : Int) (d : LeadD) (u1 u2 u3 u4 : Value) (w : World) (hl : LeadL w d u1 u2 u3 u4) (hn : isGrp n = true) (hs : bulkD d ≤ 1099511627776) (hc0 : Hid (instB n d.rp d.no = false)) :
    Calls Try.prog 34 #[.int .i64 n, .int .i64 me, .agg #[.int .i64 d.rp, .int .i64 d.no, .int .i64 d.bl, .int .i64 d.ph, .int .i64 d.k, .int .i64 d.i, .int .i64 d.f, .int .i64 d.t, .int .i64 d.a, .int .i64 d.s1, u1, .int .i64 d.s2, u2, .bool d.sm, u3, u4]] w (BoolExt false w) := by
  have HN := Lib.hid hn
  have HSZ := Lib.hid hs
  clear hn hs
  obtain ⟨wb, hwb⟩ : ∃ wb, wb = w.alloc (.cells #[.int .i64 d.rp, .int .i64 d.no, .int .i64 d.bl, .int .i64 d.ph, .int .i64 d.k, .int .i64 d.i, .int .i64 d.f, .int .i64 d.t, .int .i64 d.a, .int .i64 d.s1, u1, .int .i64 d.s2, u2, .bool d.sm, u3, u4] 69) := ⟨_, rfl⟩
  have x0 : Ext w wb := by rw [hwb]; exact Ext.alloc1 _ _
  have HA : Hid (BoxV wb w.heap.size (leadVs d u1 u2 u3 u4)) := Lib.hid (by rw [hwb]; exact lead_box w _ d u1 u2 u3 u4)
  have HL := Lib.hid (hl.ext x0)
  have HX0 := Lib.hid x0
  have HW := Lib.hid hwb
  clear hwb x0 hl
  go_enter Try.func34, Try.ntmps34
  obtain ⟨a0, a1, a2, a3, a4, a5, a6, a7, a8, a9, a10, a11, a12, a13, a14, a15⟩ := lead_cells HA.out
  go_wp2_with fail
  rw [← HW.out]
  refine (isInstance_any n d.rp d.no _ HN.out).mono ?_
  rintro e w1 ⟨rfl, rfl⟩
  rw [hc0.out]
  clear a0 a1 a2 a3 a4 a5 a6 a7 a8 a9 a10 a11 a12 a13 a14 a15
  go_wp2
  go_ret
  exact ⟨rfl, HX0.out⟩
set_option maxHeartbeats 8000000 in
set_option maxRecDepth 100000 in
theorem isGoodLead_1 (n me : Int) (d : LeadD) (u1 u2 u3 u4 : Value) (w : World) (hl : LeadL w d u1 u2 u3 u4) (hn : isGrp n = true) (hs : bulkD d ≤ 1099511627776) (hc0 : Hid (instB n d.rp d.no = true)) (hc1 : Hid (inB d.bl 0 9999 = false)) :
    Calls Try.prog 34 #[.int .i64 n, .int .i64 me, .agg #[.int .i64 d.rp, .int .i64 d.no, .int .i64 d.bl, .int .i64 d.ph, .int .i64 d.k, .int .i64 d.i, .int .i64 d.f, .int .i64 d.t, .int .i64 d.a, .int .i64 d.s1, u1, .int .i64 d.s2, u2, .bool d.sm, u3, u4]] w (BoolExt false w) := by
  have HN := Lib.hid hn
  have HSZ := Lib.hid hs
  clear hn hs
  obtain ⟨wb, hwb⟩ : ∃ wb, wb = w.alloc (.cells #[.int .i64 d.rp, .int .i64 d.no, .int .i64 d.bl, .int .i64 d.ph, .int .i64 d.k, .int .i64 d.i, .int .i64 d.f, .int .i64 d.t, .int .i64 d.a, .int .i64 d.s1, u1, .int .i64 d.s2, u2, .bool d.sm, u3, u4] 69) := ⟨_, rfl⟩
  have x0 : Ext w wb := by rw [hwb]; exact Ext.alloc1 _ _
  have HA : Hid (BoxV wb w.heap.size (leadVs d u1 u2 u3 u4)) := Lib.hid (by rw [hwb]; exact lead_box w _ d u1 u2 u3 u4)
  have HL := Lib.hid (hl.ext x0)
  have HX0 := Lib.hid x0
  have HW := Lib.hid hwb
  clear hwb x0 hl
  go_enter Try.func34, Try.ntmps34
  obtain ⟨a0, a1, a2, a3, a4, a5, a6, a7, a8, a9, a10, a11, a12, a13, a14, a15⟩ := lead_cells HA.out
  go_wp2_with fail
  rw [← HW.out]
  refine (isInstance_any n d.rp d.no _ HN.out).mono ?_
  rintro e w1 ⟨rfl, rfl⟩
  rw [hc0.out]
  have hb := hc1.out
  unfold inB at hb
  by_cases b0 : d.bl < 0
  · clear hb
    go_wp2
    go_ret
    exact ⟨rfl, HX0.out⟩
  · have b1 : 9999 < d.bl := by simp at hb; omega
    clear hb
    go_wp2
    go_ret
    exact ⟨rfl, HX0.out⟩
set_option maxHeartbeats 8000000 in
set_option maxRecDepth 100000 in
theorem isGoodLead_2 (n me : Int) (d : LeadD) (u1 u2 u3 u4 : Value) (w : World) (hl : LeadL w d u1 u2 u3 u4) (hn : isGrp n = true) (hs : bulkD d ≤ 1099511627776) (hc0 : Hid (instB n d.rp d.no = true)) (hc1 : Hid (inB d.bl 0 9999 = true)) (hc2 : Hid ((riseB d.who 0 (n - 1) && hasI d.who me) = false)) :
    Calls Try.prog 34 #[.int .i64 n, .int .i64 me, .agg #[.int .i64 d.rp, .int .i64 d.no, .int .i64 d.bl, .int .i64 d.ph, .int .i64 d.k, .int .i64 d.i, .int .i64 d.f, .int .i64 d.t, .int .i64 d.a, .int .i64 d.s1, u1, .int .i64 d.s2, u2, .bool d.sm, u3, u4]] w (BoolExt false w) := by
  have HN := Lib.hid hn
  have HSZ := Lib.hid hs
  clear hn hs
  obtain ⟨wb, hwb⟩ : ∃ wb, wb = w.alloc (.cells #[.int .i64 d.rp, .int .i64 d.no, .int .i64 d.bl, .int .i64 d.ph, .int .i64 d.k, .int .i64 d.i, .int .i64 d.f, .int .i64 d.t, .int .i64 d.a, .int .i64 d.s1, u1, .int .i64 d.s2, u2, .bool d.sm, u3, u4] 69) := ⟨_, rfl⟩
  have x0 : Ext w wb := by rw [hwb]; exact Ext.alloc1 _ _
  have HA : Hid (BoxV wb w.heap.size (leadVs d u1 u2 u3 u4)) := Lib.hid (by rw [hwb]; exact lead_box w _ d u1 u2 u3 u4)
  have HL := Lib.hid (hl.ext x0)
  have HX0 := Lib.hid x0
  have HW := Lib.hid hwb
  clear hwb x0 hl
  go_enter Try.func34, Try.ntmps34
  obtain ⟨a0, a1, a2, a3, a4, a5, a6, a7, a8, a9, a10, a11, a12, a13, a14, a15⟩ := lead_cells HA.out
  go_wp2_with fail
  rw [← HW.out]
  refine (isInstance_any n d.rp d.no _ HN.out).mono ?_
  rintro e w1 ⟨rfl, rfl⟩
  rw [hc0.out]
  have hb := hc1.out
  unfold inB at hb
  have b0 : ¬ d.bl < 0 := by simp at hb; omega
  have b1 : ¬ 9999 < d.bl := by simp at hb; omega
  clear hb
  go_wp2_with fail
  refine (areVoters_any n me u3 d.who _ HL.out.i3 HN.out).mono ?_
  rintro e w1 ⟨rfl, x1⟩
  rw [hc2.out]
  have X1 := Lib.hid x1
  clear x1 a0 a1 a2 a3 a4 a5 a6 a7 a8 a9 a10 a11 a12 a13 a14 a15
  go_wp2
  go_ret
  exact ⟨rfl, HX0.out.trans X1.out⟩
set_option maxHeartbeats 8000000 in
set_option maxRecDepth 100000 in
theorem isGoodLead_p0 (n me : Int) (d : LeadD) (u1 u2 u3 u4 : Value) (w : World) (hl : LeadL w d u1 u2 u3 u4) (hn : isGrp n = true) (hs : bulkD d ≤ 1099511627776) (hc0 : Hid (instB n d.rp d.no = true)) (hc1 : Hid (inB d.bl 0 9999 = true)) (hc2 : Hid ((riseB d.who 0 (n - 1) && hasI d.who me) = true)) (hp : d.ph ≠ 1 ∧ d.ph ≠ 2 ∧ d.ph ≠ 3) :
    Calls Try.prog 34 #[.int .i64 n, .int .i64 me, .agg #[.int .i64 d.rp, .int .i64 d.no, .int .i64 d.bl, .int .i64 d.ph, .int .i64 d.k, .int .i64 d.i, .int .i64 d.f, .int .i64 d.t, .int .i64 d.a, .int .i64 d.s1, u1, .int .i64 d.s2, u2, .bool d.sm, u3, u4]] w (BoolExt (leadB n me d) w) := by
  have HO := Lib.hid (lead_ph0 (n := n) (me := me) hp)
  have HP := Lib.hid hp
  clear hp
  have HN := Lib.hid hn
  have HSZ := Lib.hid hs
  clear hn hs
  obtain ⟨wb, hwb⟩ : ∃ wb, wb = w.alloc (.cells #[.int .i64 d.rp, .int .i64 d.no, .int .i64 d.bl, .int .i64 d.ph, .int .i64 d.k, .int .i64 d.i, .int .i64 d.f, .int .i64 d.t, .int .i64 d.a, .int .i64 d.s1, u1, .int .i64 d.s2, u2, .bool d.sm, u3, u4] 69) := ⟨_, rfl⟩
  have x0 : Ext w wb := by rw [hwb]; exact Ext.alloc1 _ _
  have HA : Hid (BoxV wb w.heap.size (leadVs d u1 u2 u3 u4)) := Lib.hid (by rw [hwb]; exact lead_box w _ d u1 u2 u3 u4)
  have HL := Lib.hid (hl.ext x0)
  have HX0 := Lib.hid x0
  have HW := Lib.hid hwb
  clear hwb x0 hl
  go_enter Try.func34, Try.ntmps34
  obtain ⟨a0, a1, a2, a3, a4, a5, a6, a7, a8, a9, a10, a11, a12, a13, a14, a15⟩ := lead_cells HA.out
  go_wp2_with fail
  rw [← HW.out]
  refine (isInstance_any n d.rp d.no _ HN.out).mono ?_
  rintro e w1 ⟨rfl, rfl⟩
  rw [hc0.out]
  have hb := hc1.out
  unfold inB at hb
  have b0 : ¬ d.bl < 0 := by simp at hb; omega
  have b1 : ¬ 9999 < d.bl := by simp at hb; omega
  clear hb
  go_wp2_with fail
  refine (areVoters_any n me u3 d.who _ HL.out.i3 HN.out).mono ?_
  rintro e w1 ⟨rfl, x1⟩
  rw [hc2.out]
  have X1 := Lib.hid x1
  clear x1 a0 a1 a2 a3 a4 a5 a6 a7 a8 a9 a10 a11 a12 a13 a14 a15
  obtain ⟨hp1, hp2, hp3⟩ := HP.out
  have e1 : (d.ph == 1) = false := by simpa using hp1
  have e2 : (d.ph == 2) = false := by simpa using hp2
  have e3 : (d.ph == 3) = false := by simpa using hp3
  clear hp1 hp2 hp3
  obtain ⟨a0, a1, a2, a3, a4, a5, a6, a7, a8, a9, a10, a11, a12, a13, a14, a15⟩ := lead_cells (HA.out.ext X1.out)
  go_wp2
  go_ret
  exact ⟨by rw [HO.out]; rfl, HX0.out.trans X1.out⟩
set_option maxHeartbeats 8000000 in
set_option maxRecDepth 100000 in
theorem isGoodLead_p1 (n me : Int) (d : LeadD) (u1 u2 u3 u4 : Value) (w : World) (hl : LeadL w d u1 u2 u3 u4) (hn : isGrp n = true) (hs : bulkD d ≤ 1099511627776) (hc0 : Hid (instB n d.rp d.no = true)) (hc1 : Hid (inB d.bl 0 9999 = true)) (hc2 : Hid ((riseB d.who 0 (n - 1) && hasI d.who me) = true)) (hp : d.ph = 1) :
    Calls Try.prog 34 #[.int .i64 n, .int .i64 me, .agg #[.int .i64 d.rp, .int .i64 d.no, .int .i64 d.bl, .int .i64 d.ph, .int .i64 d.k, .int .i64 d.i, .int .i64 d.f, .int .i64 d.t, .int .i64 d.a, .int .i64 d.s1, u1, .int .i64 d.s2, u2, .bool d.sm, u3, u4]] w (BoolExt (leadB n me d) w) := by
  have HO := Lib.hid (lead_ph1 hn hc0.out hc1.out hc2.out hp)
  have HP := Lib.hid hp
  clear hp
  have HN := Lib.hid hn
  have HSZ := Lib.hid hs
  clear hn hs
  obtain ⟨wb, hwb⟩ : ∃ wb, wb = w.alloc (.cells #[.int .i64 d.rp, .int .i64 d.no, .int .i64 d.bl, .int .i64 d.ph, .int .i64 d.k, .int .i64 d.i, .int .i64 d.f, .int .i64 d.t, .int .i64 d.a, .int .i64 d.s1, u1, .int .i64 d.s2, u2, .bool d.sm, u3, u4] 69) := ⟨_, rfl⟩
  have x0 : Ext w wb := by rw [hwb]; exact Ext.alloc1 _ _
  have HA : Hid (BoxV wb w.heap.size (leadVs d u1 u2 u3 u4)) := Lib.hid (by rw [hwb]; exact lead_box w _ d u1 u2 u3 u4)
  have HL := Lib.hid (hl.ext x0)
  have HX0 := Lib.hid x0
  have HW := Lib.hid hwb
  clear hwb x0 hl
  go_enter Try.func34, Try.ntmps34
  obtain ⟨a0, a1, a2, a3, a4, a5, a6, a7, a8, a9, a10, a11, a12, a13, a14, a15⟩ := lead_cells HA.out
  go_wp2_with fail
  rw [← HW.out]
  refine (isInstance_any n d.rp d.no _ HN.out).mono ?_
  rintro e w1 ⟨rfl, rfl⟩
  rw [hc0.out]
  have hb := hc1.out
  unfold inB at hb
  have b0 : ¬ d.bl < 0 := by simp at hb; omega
  have b1 : ¬ 9999 < d.bl := by simp at hb; omega
  clear hb
  go_wp2_with fail
  refine (areVoters_any n me u3 d.who _ HL.out.i3 HN.out).mono ?_
  rintro e w1 ⟨rfl, x1⟩
  rw [hc2.out]
  have X1 := Lib.hid x1
  clear x1 a0 a1 a2 a3 a4 a5 a6 a7 a8 a9 a10 a11 a12 a13 a14 a15
  obtain ⟨b, hb⟩ : ∃ b, b = propB n d := ⟨_, rfl⟩
  have HB := Lib.hid hb
  clear hb
  obtain ⟨a0, a1, a2, a3, a4, a5, a6, a7, a8, a9, a10, a11, a12, a13, a14, a15⟩ := lead_cells (HA.out.ext X1.out)
  rw [HP.out] at a3
  go_wp2_with fail
  have hc := goodProp_any n d u1 u2 u3 u4 _ (HL.out.ext X1.out)
  rw [HP.out, ← HB.out] at hc
  refine hc.mono ?_
  rintro e w2 ⟨rfl, x2⟩
  have X2 := Lib.hid (X1.out.trans x2)
  clear x2 hc a0 a1 a2 a3 a4 a5 a6 a7 a8 a9 a10 a11 a12 a13 a14 a15
  go_wp2
  go_ret
  exact ⟨by rw [HO.out, ← HB.out]; rfl, HX0.out.trans X2.out⟩
set_option maxHeartbeats 8000000 in
set_option maxRecDepth 100000 in
theorem isGoodLead_p2 (n me : Int) (d : LeadD) (u1 u2 u3 u4 : Value) (w : World) (hl : LeadL w d u1 u2 u3 u4) (hn : isGrp n = true) (hs : bulkD d ≤ 1099511627776) (hc0 : Hid (instB n d.rp d.no = true)) (hc1 : Hid (inB d.bl 0 9999 = true)) (hc2 : Hid ((riseB d.who 0 (n - 1) && hasI d.who me) = true)) (hp : d.ph = 2) :
    Calls Try.prog 34 #[.int .i64 n, .int .i64 me, .agg #[.int .i64 d.rp, .int .i64 d.no, .int .i64 d.bl, .int .i64 d.ph, .int .i64 d.k, .int .i64 d.i, .int .i64 d.f, .int .i64 d.t, .int .i64 d.a, .int .i64 d.s1, u1, .int .i64 d.s2, u2, .bool d.sm, u3, u4]] w (BoolExt (leadB n me d) w) := by
  have HO := Lib.hid (lead_ph2 hn hc0.out hc1.out hc2.out hp)
  have HP := Lib.hid hp
  clear hp
  have HN := Lib.hid hn
  have HSZ := Lib.hid hs
  clear hn hs
  obtain ⟨wb, hwb⟩ : ∃ wb, wb = w.alloc (.cells #[.int .i64 d.rp, .int .i64 d.no, .int .i64 d.bl, .int .i64 d.ph, .int .i64 d.k, .int .i64 d.i, .int .i64 d.f, .int .i64 d.t, .int .i64 d.a, .int .i64 d.s1, u1, .int .i64 d.s2, u2, .bool d.sm, u3, u4] 69) := ⟨_, rfl⟩
  have x0 : Ext w wb := by rw [hwb]; exact Ext.alloc1 _ _
  have HA : Hid (BoxV wb w.heap.size (leadVs d u1 u2 u3 u4)) := Lib.hid (by rw [hwb]; exact lead_box w _ d u1 u2 u3 u4)
  have HL := Lib.hid (hl.ext x0)
  have HX0 := Lib.hid x0
  have HW := Lib.hid hwb
  clear hwb x0 hl
  go_enter Try.func34, Try.ntmps34
  obtain ⟨a0, a1, a2, a3, a4, a5, a6, a7, a8, a9, a10, a11, a12, a13, a14, a15⟩ := lead_cells HA.out
  go_wp2_with fail
  rw [← HW.out]
  refine (isInstance_any n d.rp d.no _ HN.out).mono ?_
  rintro e w1 ⟨rfl, rfl⟩
  rw [hc0.out]
  have hb := hc1.out
  unfold inB at hb
  have b0 : ¬ d.bl < 0 := by simp at hb; omega
  have b1 : ¬ 9999 < d.bl := by simp at hb; omega
  clear hb
  go_wp2_with fail
  refine (areVoters_any n me u3 d.who _ HL.out.i3 HN.out).mono ?_
  rintro e w1 ⟨rfl, x1⟩
  rw [hc2.out]
  have X1 := Lib.hid x1
  clear x1 a0 a1 a2 a3 a4 a5 a6 a7 a8 a9 a10 a11 a12 a13 a14 a15
  have hb1 : d.l1.length ≤ 1099511627776 := by have := HSZ.out; unfold bulkD at this; omega
  have HB1 := Lib.hid hb1
  clear hb1
  obtain ⟨a0, a1, a2, a3, a4, a5, a6, a7, a8, a9, a10, a11, a12, a13, a14, a15⟩ := lead_cells (HA.out.ext X1.out)
  rw [HP.out] at a3
  go_wp2_with fail
  have hc := goodProp_any n d u1 u2 u3 u4 _ (HL.out.ext X1.out)
  rw [HP.out] at hc
  refine hc.mono ?_
  rintro e w2 ⟨rfl, x2⟩
  have X2 := Lib.hid (X1.out.trans x2)
  clear x2 hc a0 a1 a2 a3 a4 a5 a6 a7 a8 a9 a10 a11 a12 a13 a14 a15
  cases hb : propB n d with
  | false =>
    have HQ : Hid (leadB n me d = false) := Lib.hid (by rw [HO.out, hb]; rfl)
    go_wp2
    go_ret
    exact ⟨by rw [HQ.out]; rfl, HX0.out.trans X2.out⟩
  | true =>
    have HB := Lib.hid hb
    clear hb
    obtain ⟨a0, a1, a2, a3, a4, a5, a6, a7, a8, a9, a10, a11, a12, a13, a14, a15⟩ := lead_cells (HA.out.ext X2.out)
    go_wp2_with fail
    refine (implSame_any d.s1 d.s2 u1 u2 d.l1 d.l2 _ (HL.out.i1.ext X2.out) (HL.out.i2.ext X2.out) HB1.out).mono ?_
    rintro e w3 ⟨rfl, x3⟩
    have X3 := Lib.hid (X2.out.trans x3)
    clear x3 a0 a1 a2 a3 a4 a5 a6 a7 a8 a9 a10 a11 a12 a13 a14 a15
    cases hs : sameA d.s1 d.s2 d.l1 d.l2 with
    | false =>
      have HQ : Hid (leadB n me d = false) := Lib.hid (by rw [HO.out, HB.out, hs]; rfl)
      go_wp2
      go_ret
      exact ⟨by rw [HQ.out]; rfl, HX0.out.trans X3.out⟩
    | true =>
      have HS := Lib.hid hs
      clear hs
      obtain ⟨a0, a1, a2, a3, a4, a5, a6, a7, a8, a9, a10, a11, a12, a13, a14, a15⟩ := lead_cells (HA.out.ext X3.out)
      cases hm : d.sm with
      | false =>
        have HQ : Hid (leadB n me d = true) := Lib.hid (by rw [HO.out, HB.out, HS.out, hm]; rfl)
        rw [hm] at a13
        go_wp2
        go_ret
        exact ⟨by rw [HQ.out]; rfl, HX0.out.trans X3.out⟩
      | true =>
        have HQ : Hid (leadB n me d = false) := Lib.hid (by rw [HO.out, HB.out, HS.out, hm]; rfl)
        rw [hm] at a13
        go_wp2
        go_ret
        exact ⟨by rw [HQ.out]; rfl, HX0.out.trans X3.out⟩
end Go.Proofs.Ytbffkidkfannhaa

namespace Go.Proofs.Ytbffkidkfannhaa
open Go.RowKit
set_option linter.unusedVariables false

set_option maxHeartbeats 8000000 in
set_option maxRecDepth 100000 in
theorem isGoodLead_p3 (n me : Int) (d : LeadD) (u1 u2 u3 u4 : Value) (w : World) (hl : LeadL w d u1 u2 u3 u4) (hn : isGrp n = true) (hs : bulkD d ≤ 1099511627776) (hc0 : Hid (instB n d.rp d.no = true)) (hc1 : Hid (inB d.bl 0 9999 = true)) (hc2 : Hid ((riseB d.who 0 (n - 1) && hasI d.who me) = true)) (hp : d.ph = 3) :
    Calls Try.prog 34 #[.int .i64 n, .int .i64 me, .agg #[.int .i64 d.rp, .int .i64 d.no, .int .i64 d.bl, .int .i64 d.ph, .int .i64 d.k, .int .i64 d.i, .int .i64 d.f, .int .i64 d.t, .int .i64 d.a, .int .i64 d.s1, u1, .int .i64 d.s2, u2, .bool d.sm, u3, u4]] w (BoolExt (leadB n me d) w) := by
  have HO := Lib.hid (lead_ph3 hn hc0.out hc1.out hc2.out hp)
  have HP := Lib.hid hp
  clear hp
  have HN := Lib.hid hn
  have HSZ := Lib.hid hs
  clear hn hs
  obtain ⟨wb, hwb⟩ : ∃ wb, wb = w.alloc (.cells #[.int .i64 d.rp, .int .i64 d.no, .int .i64 d.bl, .int .i64 d.ph, .int .i64 d.k, .int .i64 d.i, .int .i64 d.f, .int .i64 d.t, .int .i64 d.a, .int .i64 d.s1, u1, .int .i64 d.s2, u2, .bool d.sm, u3, u4] 69) := ⟨_, rfl⟩
  have x0 : Ext w wb := by rw [hwb]; exact Ext.alloc1 _ _
  have HA : Hid (BoxV wb w.heap.size (leadVs d u1 u2 u3 u4)) := Lib.hid (by rw [hwb]; exact lead_box w _ d u1 u2 u3 u4)
  have HL := Lib.hid (hl.ext x0)
  have HX0 := Lib.hid x0
  have HW := Lib.hid hwb
  clear hwb x0 hl
  go_enter Try.func34, Try.ntmps34
  obtain ⟨a0, a1, a2, a3, a4, a5, a6, a7, a8, a9, a10, a11, a12, a13, a14, a15⟩ := lead_cells HA.out
  go_wp2_with fail
  rw [← HW.out]
  refine (isInstance_any n d.rp d.no _ HN.out).mono ?_
  rintro e w1 ⟨rfl, rfl⟩
  rw [hc0.out]
  have hb := hc1.out
  unfold inB at hb
  have b0 : ¬ d.bl < 0 := by simp at hb; omega
  have b1 : ¬ 9999 < d.bl := by simp at hb; omega
  clear hb
  go_wp2_with fail
  refine (areVoters_any n me u3 d.who _ HL.out.i3 HN.out).mono ?_
  rintro e w1 ⟨rfl, x1⟩
  rw [hc2.out]
  have X1 := Lib.hid x1
  clear x1 a0 a1 a2 a3 a4 a5 a6 a7 a8 a9 a10 a11 a12 a13 a14 a15
  have hb1 : d.l1.length ≤ 1099511627776 := by have := HSZ.out; unfold bulkD at this; omega
  have hb2 : d.l2.length ≤ 1099511627776 := by have := HSZ.out; unfold bulkD at this; omega
  have hb3 : bulkR d.seen ≤ 1099511627776 := by have := HSZ.out; unfold bulkD at this; omega
  have HB1 := Lib.hid hb1
  have HB2 := Lib.hid hb2
  have HB3 := Lib.hid hb3
  clear hb1 hb2 hb3
  obtain ⟨a0, a1, a2, a3, a4, a5, a6, a7, a8, a9, a10, a11, a12, a13, a14, a15⟩ := lead_cells (HA.out.ext X1.out)
  rw [HP.out] at a3
  go_wp2_with fail
  refine (joinNone_any n _ HN.out).mono ?_
  rintro e w9 ⟨v, rfl, f9, x9⟩
  obtain ⟨vx, vc, rfl⟩ := f9.form
  have HX9w := Lib.hid (X1.out.trans x9)
  clear x9 a0 a1 a2 a3 a4 a5 a6 a7 a8 a9 a10 a11 a12 a13 a14 a15
  obtain ⟨wn, hwn⟩ : ∃ wn, wn = w9.alloc (.cells #[.int .i64 0, .slice vx (noneL n).length vc] 55) := ⟨_, rfl⟩
  have xn : Ext w9 wn := by rw [hwn]; exact Ext.alloc1 _ _
  have nn : AttrAt wn w9.heap.size 0 (.slice vx (noneL n).length vc) := by rw [hwn]; exact attrAt_new _ _ _ _
  have FN := Lib.hid (f9.ints.ext xn)
  have X2 := Lib.hid (HX9w.out.trans xn)
  have HWN := Lib.hid hwn
  have NN := Lib.hid nn
  clear xn nn hwn f9
  have hbw : w.heap.size < w9.heap.size := (HA.out.ext HX9w.out).lt
  have ec := fun W => eq_cmd d.k d.i d.f d.t d.a 0 0 0 0 0 W
  obtain ⟨a0, a1, a2, a3, a4, a5, a6, a7, a8, a9, a10, a11, a12, a13, a14, a15⟩ := lead_cells (HA.out.ext HX9w.out)
  cases hc : sameC d.k d.i d.f d.t d.a 0 0 0 0 0 with
  | false =>
    rw [hc] at ec
    have HQ : Hid (leadB n me d = false) := Lib.hid (by rw [HO.out, hc]; rfl)
    go_wp2
    go_ret
    exact ⟨by rw [HQ.out]; rfl, by rw [← HWN.out]; exact HX0.out.trans X2.out⟩
  | true =>
    rw [hc] at ec
    have HC := Lib.hid hc
    clear hc
    go_wp2_with fail
    rw [← HWN.out]
    refine (implSame_any d.s1 0 u1 _ d.l1 (noneL n) _ (HL.out.i1.ext X2.out) FN.out HB1.out).mono ?_
    rintro e w3 ⟨rfl, x3⟩
    have X3 := Lib.hid (X2.out.trans x3)
    have NN3 := Lib.hid (NN.out.ext x3)
    have FN3 := Lib.hid (FN.out.ext x3)
    clear x3 ec a0 a1 a2 a3 a4 a5 a6 a7 a8 a9 a10 a11 a12 a13 a14 a15
    cases h1 : sameA d.s1 0 d.l1 (noneL n) with
    | false =>
      have HQ : Hid (leadB n me d = false) := Lib.hid (by rw [HO.out, HC.out, h1]; rfl)
      go_wp2
      go_ret
      exact ⟨by rw [HQ.out]; rfl, HX0.out.trans X3.out⟩
    | true =>
      have H1 := Lib.hid h1
      clear h1
      obtain ⟨nn0, nn1⟩ := NN3.out
      obtain ⟨a0, a1, a2, a3, a4, a5, a6, a7, a8, a9, a10, a11, a12, a13, a14, a15⟩ := lead_cells (HA.out.ext X3.out)
      go_wp2_with fail
      refine (implSame_any d.s2 0 u2 _ d.l2 (noneL n) _ (HL.out.i2.ext X3.out) FN3.out HB2.out).mono ?_
      rintro e w4 ⟨rfl, x4⟩
      have X4 := Lib.hid (X3.out.trans x4)
      clear x4 nn0 nn1 a0 a1 a2 a3 a4 a5 a6 a7 a8 a9 a10 a11 a12 a13 a14 a15
      cases h2 : sameA d.s2 0 d.l2 (noneL n) with
      | false =>
        have HQ : Hid (leadB n me d = false) := Lib.hid (by rw [HO.out, HC.out, H1.out, h2]; rfl)
        go_wp2
        go_ret
        exact ⟨by rw [HQ.out]; rfl, HX0.out.trans X4.out⟩
      | true =>
        have H2 := Lib.hid h2
        clear h2
        obtain ⟨a0, a1, a2, a3, a4, a5, a6, a7, a8, a9, a10, a11, a12, a13, a14, a15⟩ := lead_cells (HA.out.ext X4.out)
        cases hm : d.sm with
        | true =>
          have HQ : Hid (leadB n me d = false) := Lib.hid (by rw [HO.out, HC.out, H1.out, H2.out, hm]; rfl)
          rw [hm] at a13
          go_wp2
          go_ret
          exact ⟨by rw [HQ.out]; rfl, HX0.out.trans X4.out⟩
        | false =>
          have HM := Lib.hid hm
          rw [hm] at a13
          clear hm
          obtain ⟨aw, cw, hu3, _⟩ := HL.out.i3
          obtain ⟨aq, cq, hu4, _⟩ := HL.out.i4
          have IS := Lib.hid (HL.out.i4.ext X4.out)
          rw [hu4] at IS
          rw [hu3] at a14
          rw [hu4] at a15
          by_cases h0 : d.seen.length = d.who.length
          · have h0' : ((d.seen.length : Int) == (d.who.length : Int)) = true := by simp [h0]
            obtain ⟨b, hb⟩ : ∃ b, b = d.seen.all (toldB n) := ⟨_, rfl⟩
            have HQ : Hid (leadB n me d = b) := Lib.hid (by rw [HO.out, HC.out, H1.out, H2.out, HM.out, decide_eq_true h0, hb]; rfl)
            have HBB := Lib.hid hb
            clear h0 hb
            go_wp2_with fail
            have hc := areReports_any n _ d.seen _ IS.out HN.out HB3.out
            rw [← HBB.out] at hc
            refine hc.mono ?_
            rintro e w5 ⟨rfl, x5⟩
            clear hc a0 a1 a2 a3 a4 a5 a6 a7 a8 a9 a10 a11 a12 a13 a14 a15
            go_wp2
            go_ret
            exact ⟨by rw [HQ.out]; rfl, HX0.out.trans (X4.out.trans x5)⟩
          · have h0' : ((d.seen.length : Int) == (d.who.length : Int)) = false := by simp; omega
            have HQ : Hid (leadB n me d = false) := Lib.hid (by rw [HO.out, HC.out, H1.out, H2.out, HM.out, decide_eq_false h0]; rfl)
            clear h0
            go_wp2
            go_ret
            exact ⟨by rw [HQ.out]; rfl, HX0.out.trans X4.out⟩
theorem isGoodLead_any (n me : Int) (d : LeadD) (u1 u2 u3 u4 : Value) (w : World) (hl : LeadL w d u1 u2 u3 u4) (hn : isGrp n = true) (hs : bulkD d ≤ 1099511627776) :
    Calls Try.prog 34 #[.int .i64 n, .int .i64 me, .agg #[.int .i64 d.rp, .int .i64 d.no, .int .i64 d.bl, .int .i64 d.ph, .int .i64 d.k, .int .i64 d.i, .int .i64 d.f, .int .i64 d.t, .int .i64 d.a, .int .i64 d.s1, u1, .int .i64 d.s2, u2, .bool d.sm, u3, u4]] w (BoolExt (leadB n me d) w) := by
  cases h0 : instB n d.rp d.no with
  | false => rw [lead_no0 h0]; exact isGoodLead_0 n me d u1 u2 u3 u4 w hl hn hs (Lib.hid h0)
  | true =>
    cases h1 : inB d.bl 0 9999 with
    | false => rw [lead_no1 h1]; exact isGoodLead_1 n me d u1 u2 u3 u4 w hl hn hs (Lib.hid h0) (Lib.hid h1)
    | true =>
      cases h2 : (riseB d.who 0 (n - 1) && hasI d.who me) with
      | false => rw [lead_no2 h2]; exact isGoodLead_2 n me d u1 u2 u3 u4 w hl hn hs (Lib.hid h0) (Lib.hid h1) (Lib.hid h2)
      | true =>
        by_cases p1 : d.ph = 1
        · exact isGoodLead_p1 n me d u1 u2 u3 u4 w hl hn hs (Lib.hid h0) (Lib.hid h1) (Lib.hid h2) p1
        · by_cases p2 : d.ph = 2
          · exact isGoodLead_p2 n me d u1 u2 u3 u4 w hl hn hs (Lib.hid h0) (Lib.hid h1) (Lib.hid h2) p2
          · by_cases p3 : d.ph = 3
            · exact isGoodLead_p3 n me d u1 u2 u3 u4 w hl hn hs (Lib.hid h0) (Lib.hid h1) (Lib.hid h2) p3
            · exact isGoodLead_p0 n me d u1 u2 u3 u4 w hl hn hs (Lib.hid h0) (Lib.hid h1) (Lib.hid h2) ⟨p1, p2, p3⟩
end Go.Proofs.Ytbffkidkfannhaa

namespace Go.Proofs.Ytbffkidkfannhaa
open Go.RowKit Go.Maps
set_option linter.unusedVariables false

theorem two_of {n : Nat} (h : 1 ≤ n) : ∃ d, n + 1 = d + 2 := ⟨n - 1, by omega⟩
/-- What an instance reads as, as a key. -/
def kl (a b : Int) : Lit := .string (keyBytes [.int .i64 a, .int .i64 b])
def instV (a b : Int) : Value := .agg #[.int .i64 a, .int .i64 b]
set_option maxRecDepth 100000
theorem instWide : (match Try.prog.underlying 74 with | some (.array _ _) | some (.struct _) => true | _ => false) = true := by kernel_rfl
theorem instKeyed : Keyed Try.prog 74 :=
  Keyed.of_law (deep_law_laid (by kernel_rfl) (m := 2) (by omega) (of_decide_eq_true (by kernel_rfl)) (by kernel_rfl) instWide)

theorem instType : Try.prog.keyType 74 = true := by kernel_rfl
theorem lits_int {d : Nat} {a : Int} (ha : wf64 a) : Try.prog.keyLits (d + 1) 3 [.int .i64 a] = some [.int .i64 a] := by
  unfold Program.keyLits
  rw [Try.underlying3]
  unfold wf64 at ha
  simp [ha]
theorem lits_int_inv {d : Nat} {v : Value} {L : List Lit} (h : Try.prog.keyLits (d + 1) 3 [v] = some L) : ∃ a, v = .int .i64 a ∧ wf64 a ∧ L = [.int .i64 a] := by
  unfold Program.keyLits at h
  rw [Try.underlying3] at h
  cases v <;> simp at h
  obtain ⟨⟨rfl, hw⟩, rfl⟩ := h
  exact ⟨_, rfl, hw, rfl⟩
theorem cellsInst : Try.prog.cellsOf 74 = 2 := by kernel_rfl
theorem cellsInt : Try.prog.cellsOf 3 = 1 := by kernel_rfl
theorem lits_inst {d : Nat} {a b : Int} (ha : wf64 a) (hb : wf64 b) : Try.prog.keyLits (d + 2) 74 [.int .i64 a, .int .i64 b] = some [.int .i64 a, .int .i64 b] := by
  unfold Program.keyLits
  rw [Try.underlying74]
  simp [cellsInst, cellsInt, lits_int ha, lits_int hb]
theorem keyOf_inst {a b : Int} (ha : wf64 a) (hb : wf64 b) : keyOf Try.prog 74 (instV a b) = some (kl a b) := by
  unfold keyOf
  rw [Try.underlying74]
  have hf : Value.formed Try.prog 74 (instV a b) = true := by
    unfold Value.formed instV
    simp [Try.underlying74, cellsInst]
  obtain ⟨d, hd⟩ : ∃ d, Try.prog.types.size + 1 = d + 2 := two_of (of_decide_eq_true (by kernel_rfl))
  simp only [instType, hf, Bool.and_self, if_true, hd]
  unfold instV
  simp only [Value.cells]
  rw [lits_inst ha hb]
  rfl
theorem keyOf_inst_inv {v : Value} {l : Lit} (h : keyOf Try.prog 74 v = some l) : ∃ a b, v = instV a b ∧ l = kl a b ∧ wf64 a ∧ wf64 b := by
  obtain ⟨xs, L, rfl, hL, rfl⟩ := keyOf_top instWide h
  obtain ⟨d, hd⟩ : ∃ d, Try.prog.types.size + 1 = d + 2 := two_of (of_decide_eq_true (by kernel_rfl))
  rw [hd] at hL
  unfold Program.keyLits at hL
  rw [Try.underlying74] at hL
  simp only [cellsInst] at hL
  split at hL
  · rename_i hc
    obtain ⟨x, y, hxy⟩ : ∃ x y, xs.toList = [x, y] := by
      match h : xs.toList with
      | [x, y] => exact ⟨x, y, rfl⟩
      | [] => simp [h] at hc
      | [_] => simp [h] at hc
      | _ :: _ :: _ :: _ => simp [h] at hc
    rw [hxy] at hL
    cases h1 : Try.prog.keyLits (d + 1) 3 [x] with
    | none => simp [cellsInt, h1] at hL
    | some A =>
      cases h2 : Try.prog.keyLits (d + 1) 3 [y] with
      | none => simp [cellsInt, h1, h2] at hL
      | some B =>
        simp [cellsInt, h1, h2] at hL
        obtain ⟨a, rfl, wa, rfl⟩ := lits_int_inv h1
        obtain ⟨b, rfl, wb, rfl⟩ := lits_int_inv h2
        refine ⟨a, b, ?_, ?_, wa, wb⟩
        · unfold instV
          rw [← Array.toArray_toList (xs := xs), hxy]
        · subst hL
          rfl
  · cases hL
theorem kl_inj {a b c d : Int} (ha : wf64 a) (hb : wf64 b) (hc : wf64 c) (hd : wf64 d) (h : kl a b = kl c d) : a = c ∧ b = d := by
  have e := instKeyed.inj (keyOf_inst ha hb) (h ▸ keyOf_inst hc hd)
  unfold instV at e
  simpa using e

end Go.Proofs.Ytbffkidkfannhaa

namespace Go.Proofs.Ytbffkidkfannhaa
open Go.RowKit
set_option linter.unusedVariables false

set_option maxHeartbeats 1000000 in
theorem l1Own_any (u : Value) (l : List Int) (w : World) (hu : Ints w u l) (hl : l.length ≤ 1048576) :
    Calls Try.prog 108 #[u] w (NewInts l w) := by
  have hb1 : ([] : List Int).length + l.length ≤ 1099511627776 := by simp; omega
  have HB := Lib.hid hb1
  have HU := Lib.hid hu
  clear hb1 hu hl
  go_enter Try.func108, Try.ntmps108
  go_wp2_with (at_builtin; refine wpList_join rfl _ _ rfl w.heap.size _ _ [] l rfl (fresh_lit w [] #[] _ rfl (Nat.le_refl _) (Nat.zero_le _)) rfl (HU.out.ext (Ext.alloc (Ext.refl _) _)) HB.out (size_alloc_le (Nat.le_refl _)) ?_)
  intro v1 w1 f1 g1 k1
  have e1' : Ext w w1 := k1 w (Ext.alloc (Ext.refl _) _) (Nat.le_refl _)
  clear g1 k1
  go_wp2
  go_ret
  exact ⟨_, rfl, by simpa using f1, e1'⟩

theorem box_res (w : World) (s : Int) (u : Value) (T : TypeId) :
    AttrAt ((w.alloc (.cells #[.int .i64 s, u] T)).alloc (.cells #[.int .i64 0, .slice none 0 0] T)) w.heap.size s u ∧ OpenAt ((w.alloc (.cells #[.int .i64 s, u] T)).alloc (.cells #[.int .i64 0, .slice none 0 0] T)) (w.heap.size + 1) 0 (.slice none 0 0) := by
  refine ⟨⟨?_, ?_⟩, ⟨?_, ?_⟩, ?_, ?_⟩ <;> go_simp

set_option maxHeartbeats 2000000 in
theorem l4OwnAttr_any (s : Int) (u : Value) (l : List Int) (w : World) (hu : Ints w u l) (hl : l.length ≤ 1048576) :
    Calls Try.prog 103 #[.agg #[.int .i64 s, u]] w (NewAttr s l w) := by
  have HL := Lib.hid hl
  have HU := Lib.hid hu
  have HO := Lib.hid (box_res w s u 55)
  clear hl hu
  go_enter Try.func103, Try.ntmps103
  go_wp2_with fail
  go_region_with (go_at_call 108; refine (l1Own_any _ l _ (HU.out.ext (by repeat (first | exact Ext.refl _ | apply Ext.drew | apply Ext.alloc))) HL.out).mono ?_; rintro e W ⟨z, rfl, f9, x9⟩; obtain ⟨az, cz, rfl⟩ := f9.form; obtain ⟨b0, b1⟩ := HO.out.1.ext ((Ext.drew (Ext.refl _)).trans x9); obtain ⟨⟨c0, c1⟩, z0, z1⟩ := HO.out.2.ext ((Ext.drew (Ext.refl _)).trans x9))
  all_goals
    have F9 := Lib.hid f9
    have X9 := Lib.hid x9
    clear f9 x9 b0 b1
    go_wp2
    refine bodyPost_ret (v := .agg #[.int .i64 s, .slice az l.length cz]) (by simp [results, Try.results103, go_sem, c0, c1]) rfl ⟨_, rfl, ?_, ?_⟩
    · exact ((F9.out.set _ _ _ (by simp)).set _ _ _ (by simp)).more (by simp; omega)
    · exact (((((Ext.refl w).alloc _).alloc _).trans ((Ext.drew (Ext.refl _)).trans X9.out)).setc (by simp)).setc (by simp)

theorem box_res_row (w : World) (r : RowD) (u : Value) (T : TypeId) :
    (RowAt ((w.alloc (.cells #[.int .i64 r.b, .int .i64 r.v, .int .i64 r.st, .int .i64 r.k, .int .i64 r.i, .int .i64 r.f, .int .i64 r.t, .int .i64 r.a, .int .i64 r.s, u] T)).alloc (.cells #[.int .i64 0, .int .i64 0, .int .i64 0, .int .i64 0, .int .i64 0, .int .i64 0, .int .i64 0, .int .i64 0, .int .i64 0, .slice none 0 0] T)) w.heap.size r u ∧
      FreeAt ((w.alloc (.cells #[.int .i64 r.b, .int .i64 r.v, .int .i64 r.st, .int .i64 r.k, .int .i64 r.i, .int .i64 r.f, .int .i64 r.t, .int .i64 r.a, .int .i64 r.s, u] T)).alloc (.cells #[.int .i64 0, .int .i64 0, .int .i64 0, .int .i64 0, .int .i64 0, .int .i64 0, .int .i64 0, .int .i64 0, .int .i64 0, .slice none 0 0] T)) w.heap.size) ∧
    (RowAt ((w.alloc (.cells #[.int .i64 r.b, .int .i64 r.v, .int .i64 r.st, .int .i64 r.k, .int .i64 r.i, .int .i64 r.f, .int .i64 r.t, .int .i64 r.a, .int .i64 r.s, u] T)).alloc (.cells #[.int .i64 0, .int .i64 0, .int .i64 0, .int .i64 0, .int .i64 0, .int .i64 0, .int .i64 0, .int .i64 0, .int .i64 0, .slice none 0 0] T)) (w.heap.size + 1) zeroR (.slice none 0 0) ∧
      FreeAt ((w.alloc (.cells #[.int .i64 r.b, .int .i64 r.v, .int .i64 r.st, .int .i64 r.k, .int .i64 r.i, .int .i64 r.f, .int .i64 r.t, .int .i64 r.a, .int .i64 r.s, u] T)).alloc (.cells #[.int .i64 0, .int .i64 0, .int .i64 0, .int .i64 0, .int .i64 0, .int .i64 0, .int .i64 0, .int .i64 0, .int .i64 0, .slice none 0 0] T)) (w.heap.size + 1)) := by
  refine ⟨⟨⟨?_, ?_, ?_, ?_, ?_, ?_, ?_, ?_, ?_, ?_⟩, ⟨?_, ?_, ?_, ?_, ?_, ?_, ?_, ?_, ?_, ?_⟩⟩, ⟨⟨?_, ?_, ?_, ?_, ?_, ?_, ?_, ?_, ?_, ?_⟩, ⟨?_, ?_, ?_, ?_, ?_, ?_, ?_, ?_, ?_, ?_⟩⟩⟩ <;> go_simp <;> rfl

set_option maxHeartbeats 2000000 in
set_option maxRecDepth 100000 in
theorem l4OwnRow_any (r : RowD) (u : Value) (w : World) (hu : Ints w u r.l) (hl : r.l.length ≤ 1048576) :
    Calls Try.prog 78 #[.agg #[.int .i64 r.b, .int .i64 r.v, .int .i64 r.st, .int .i64 r.k, .int .i64 r.i, .int .i64 r.f, .int .i64 r.t, .int .i64 r.a, .int .i64 r.s, u]] w (NewRow r w) := by
  have HL := Lib.hid hl
  obtain ⟨wb, hwb⟩ : ∃ wb, wb = (w.alloc (.cells #[.int .i64 r.b, .int .i64 r.v, .int .i64 r.st, .int .i64 r.k, .int .i64 r.i, .int .i64 r.f, .int .i64 r.t, .int .i64 r.a, .int .i64 r.s, u] 57)).alloc (.cells #[.int .i64 0, .int .i64 0, .int .i64 0, .int .i64 0, .int .i64 0, .int .i64 0, .int .i64 0, .int .i64 0, .int .i64 0, .slice none 0 0] 57) := ⟨_, rfl⟩
  have ho := box_res_row w r u 57
  rw [← hwb] at ho
  have xb : Ext w wb := by rw [hwb]; exact ((Ext.refl w).alloc _).alloc _
  have sb : wb.heap.size = w.heap.size + 2 := by rw [hwb]; simp
  have HU := Lib.hid (hu.ext xb)
  have HWB := Lib.hid hwb
  have HO := Lib.hid ho
  have SB := Lib.hid sb
  clear hl hu hwb ho sb
  go_enter Try.func78, Try.ntmps78
  go_wp2_with fail
  rw [← HWB.out]
  refine (l4OwnAttr_any _ _ r.l _ HU.out HL.out).mono ?_
  rintro e w1 ⟨v, rfl, f1, x1⟩
  have hx := xb.trans x1
  obtain ⟨p0, p1, p2, p3, p4, p5, p6, p7, p8, p9⟩ := HO.out.1.1.ext x1
  obtain ⟨y0, y1, y2, y3, y4, y5, y6, y7, y8, y9⟩ := HO.out.1.2.ext (by have := SB.out; omega) x1
  obtain ⟨o0, o1, o2, o3, o4, o5, o6, o7, o8, o9⟩ := HO.out.2.1.ext x1
  obtain ⟨z0, z1, z2, z3, z4, z5, z6, z7, z8, z9⟩ := HO.out.2.2.ext (by have := SB.out; omega) x1
  obtain ⟨au, cu, rfl⟩ := f1.form
  have F := Lib.hid f1
  have hsz : w.heap.size + 2 ≤ wb.heap.size := by have := SB.out; omega
  have HZ := Lib.hid hsz
  clear f1 x1 xb hsz
  go_wp2
  refine bodyPost_ret (v := .agg #[.int .i64 r.b, .int .i64 r.v, .int .i64 r.st, .int .i64 r.k, .int .i64 r.i, .int .i64 r.f, .int .i64 r.t, .int .i64 r.a, .int .i64 r.s, .slice au r.l.length cu]) (by simp [results, Try.results78, go_sem, o0, o1, o2, o3, o4, o5, o6, o7, o8, o9]) rfl ⟨_, rfl, ?_, ?_⟩
  · exact ((((((((((((F.out.set _ _ _ (by have := HZ.out; omega)).set _ _ _ (by have := HZ.out; omega)).set _ _ _ (by have := HZ.out; omega)).set _ _ _ (by have := HZ.out; omega)).set _ _ _ (by have := HZ.out; omega)).set _ _ _ (by have := HZ.out; omega)).set _ _ _ (by have := HZ.out; omega)).set _ _ _ (by have := HZ.out; omega)).set _ _ _ (by have := HZ.out; omega)).set _ _ _ (by have := HZ.out; omega)).set _ _ _ (by have := HZ.out; omega)).set _ _ _ (by have := HZ.out; omega)).more (by have := HZ.out; omega)
  · exact (((((((((((hx.setc (by dsimp only; omega)).setc (by dsimp only; omega)).setc (by dsimp only; omega)).setc (by dsimp only; omega)).setc (by dsimp only; omega)).setc (by dsimp only; omega)).setc (by dsimp only; omega)).setc (by dsimp only; omega)).setc (by dsimp only; omega)).setc (by dsimp only; omega)).setc (by dsimp only; omega)).setc (by dsimp only; omega)

end Go.Proofs.Ytbffkidkfannhaa

namespace Go.Proofs.Ytbffkidkfannhaa
open Go.RowKit
set_option linter.unusedVariables false

def emptyR (n : Int) : RowD := ⟨0, 0, 0, 0, 0, 0, 0, 0, 0, noneL n⟩
/-- The row of the place (p, q + 1), the empty one behind the list's end. -/
def rowOf (n : Int) (T : List (List RowD)) (p q : Nat) : RowD := (T[p]?.getD [])[q]?.getD (emptyR n)
theorem rowOf_in {n : Int} {T : List (List RowD)} {p q : Nat} (hp : p < T.length) (hq : q < T[p].length) : rowOf n T p q = T[p][q] := by
  unfold rowOf; simp [List.getElem?_eq_getElem hp, List.getElem?_eq_getElem hq]
theorem rowOf_out {n : Int} {T : List (List RowD)} {p q : Nat} (hp : p < T.length) (hq : T[p].length ≤ q) : rowOf n T p q = emptyR n := by
  unfold rowOf; simp [List.getElem?_eq_getElem hp, List.getElem?_eq_none hq]
theorem goodTab_of {n : Int} {T : List (List RowD)} (h : goodTab n T = true) : isGrp n = true ∧ (T.length : Int) = n ∧ ∀ R ∈ T, R.length ≤ 6 ∧ ∀ r ∈ R, goodRow n r = true := by
  unfold goodTab at h
  simp only [Bool.and_eq_true, decide_eq_true_eq, List.all_eq_true] at h
  refine ⟨h.1.1, h.1.2, fun R hR => ?_⟩
  have := h.2 R hR
  unfold goodList at this
  simp only [Bool.and_eq_true, decide_eq_true_eq, List.all_eq_true] at this
  exact this
theorem goodRow_len {n : Int} {r : RowD} (hn : isGrp n = true) (h : goodRow n r = true) : (r.l.length : Int) = n := by
  unfold goodRow at h
  simp only [Bool.and_eq_true] at h
  have h2 := h.2
  split at h2
  · unfold emptyB at h2
    simp only [Bool.and_eq_true] at h2
    have h3 := h2.2
    unfold sameA at h3
    simp only [Bool.and_eq_true, decide_eq_true_eq] at h3
    rw [h3.2]
    rcases isGrp_of hn with rfl | rfl <;> simp [noneL, isGrp]
  · unfold fullB at h2
    simp only [Bool.and_eq_true] at h2
    exact (goodD_of h2.2).2.1
theorem goodTab_row {n : Int} {T : List (List RowD)} (h : goodTab n T = true) {p q : Nat} (hp : p < T.length) (hq : q < T[p].length) : goodRow n T[p][q] = true ∧ (T[p][q].l.length : Int) = n ∧ T[p][q].l.length ≤ 5 := by
  obtain ⟨h1, h2, h3⟩ := goodTab_of h
  have h4 := (h3 _ (List.getElem_mem hp)).2 _ (List.getElem_mem hq)
  have h5 := goodRow_len h1 h4
  have := isGrp_bd h1
  exact ⟨h4, h5, by omega⟩
/-- An instance, in numbers of the model's lists. -/
theorem inst_nat {n rep no : Int} {T : List (List RowD)} (h : goodTab n T = true) (hi : instB n rep no = true) : ∃ p q : Nat, rep = (p : Int) ∧ no = (q : Int) + 1 ∧ p < T.length ∧ q ≤ 5 := by
  obtain ⟨h1, h2, h3⟩ := goodTab_of h
  unfold instB at hi
  simp only [Bool.and_eq_true] at hi
  obtain ⟨ha, hb⟩ := hi
  unfold inB at ha hb
  simp only [Bool.and_eq_true, decide_eq_true_eq] at ha hb
  exact ⟨rep.toNat, (no - 1).toNat, by omega, by omega, by omega, by omega⟩

set_option maxHeartbeats 1000000 in
theorem l4Asked_any (n : Int) (u : Value) (T : List (List RowD)) (rep no : Int) (w : World) (hu : Rowzz w u T) :
    Calls Try.prog 42 #[.agg #[.int .i64 n, u], .int .i64 rep, .int .i64 no] w (BoolExt (goodTab n T && instB n rep no) w) := by
  have HB := Lib.hid (attrAt_new w 32 n u)
  have HU := Lib.hid (hu.ext (Ext.alloc1 w (.cells #[.int .i64 n, u] 32)))
  clear hu
  cases hg : goodTab n T with
  | false =>
    have HG := Lib.hid hg
    clear hg
    go_enter Try.func42, Try.ntmps42
    go_wp2_with fail
    refine (specGoodTable_any _ _ T _ HU.out).mono ?_
    rintro e w1 ⟨rfl, x1⟩
    have hx := (Ext.alloc1 w _).trans x1
    clear x1
    rw [HG.out]
    go_wp2
    go_ret
    exact ⟨rfl, hx⟩
  | true =>
    rw [Bool.true_and]
    have hb := isGrp_bd (goodTab_of hg).1
    have h3 := hb.1
    have h5 := hb.2
    have HG := Lib.hid hg
    clear hg hb
    go_enter Try.func42, Try.ntmps42
    go_wp2_with fail
    refine (specGoodTable_any _ _ T _ HU.out).mono ?_
    rintro e w1 ⟨rfl, x1⟩
    obtain ⟨c0, c1⟩ := HB.out.ext x1
    have hx := (Ext.alloc1 w _).trans x1
    clear x1
    rw [HG.out]
    go_wp2_with fail
    refine (l3Inst_any _ _ _ _ h3 h5).mono ?_
    rintro e w' ⟨rfl, rfl⟩
    clear c0 c1
    cases hi : instB n rep no
    all_goals
      have HI := Lib.hid hi
      clear hi
      go_wp2
      go_ret
      exact ⟨by rw [HI.out]; rfl, hx⟩

end Go.Proofs.Ytbffkidkfannhaa

namespace Go.Proofs.Ytbffkidkfannhaa
open Go.RowKit
set_option linter.unusedVariables false

/-- Two slices of two element types lie in two blocks. -/
theorem types_apart {w : World} {B B' e e' sz sz' n m : Nat} {v u : Value} {xs ys : List Value} (h : w.ownsRow B e sz v n xs) (k : w.ownsRow B' e' sz' u m ys) (hne : e ≠ e') : u.ownBlock = none ∨ u.ownBlock ≠ v.ownBlock := by
  rcases k.2 with ⟨rfl, _⟩ | ⟨g', cap', cur', rfl, _, hg', _⟩
  · exact .inl rfl
  · refine .inr fun hb => ?_
    rcases h.2 with ⟨rfl, _⟩ | ⟨g, cap, cur, rfl, _, hg, _⟩
    · simp [Value.ownBlock] at hb
    · simp [Value.ownBlock] at hb
      subst hb
      rw [hg] at hg'
      simp at hg'
      exact hne hg'.2
theorem FreshSS.of {B : Nat} {w : World} {v : Value} {L : List (List Int)} {vs : List Value} (h : w.ownsRow B 44 1 v L.length vs) (r : Rows_ B w vs L) : FreshSS B w v L :=
  ⟨vs, h, r, fun j u hu => by
    have hj : j < vs.length := (List.getElem?_eq_some_iff.1 hu).1
    exact types_apart h (r.row j u _ hu (List.getElem?_eq_getElem (by rw [← r.len]; exact hj))) (by decide)⟩
theorem FreshSS.form {B : Nat} {w : World} {v : Value} {L : List (List Int)} (h : FreshSS B w v L) : ∃ ao cap, v = .slice ao L.length cap := by
  obtain ⟨ao, cap, hv, _⟩ := h.intss
  exact ⟨ao, cap, hv⟩

end Go.Proofs.Ytbffkidkfannhaa

namespace Go.Proofs.Ytbffkidkfannhaa
open Go.RowKit
set_option linter.unusedVariables false

def comAt (k : Nat) (R : List RowD) (i : Nat) : List (List Int) := match R[i]? with
  | some r => if r.st == 3 then [[(k : Int), (i : Int) + 1]] else []
  | none => []
/-- What is settled among the first j rows of the list of k, among the first k lists. -/
def comTo (k : Nat) (R : List RowD) (j : Nat) : List (List Int) := (List.range j).flatMap (comAt k R)
def allTo (T : List (List RowD)) (k : Nat) : List (List Int) := (List.range k).flatMap fun p => comTo p (T[p]?.getD []) (T[p]?.getD []).length
theorem comTo_succ (k : Nat) (R : List RowD) (j : Nat) : comTo k R (j + 1) = comTo k R j ++ comAt k R j := by simp [comTo, List.range_succ]
theorem comTo_zero (k : Nat) (R : List RowD) : comTo k R 0 = [] := by simp [comTo]
theorem comAt_yes {k : Nat} {R : List RowD} {j : Nat} (h : j < R.length) (hs : (R[j].st == 3) = true) : comAt k R j = [[(k : Int), (j : Int) + 1]] := by simp [comAt, List.getElem?_eq_getElem h, hs]
theorem comAt_no {k : Nat} {R : List RowD} {j : Nat} (h : j < R.length) (hs : (R[j].st == 3) = false) : comAt k R j = [] := by simp [comAt, List.getElem?_eq_getElem h, hs]
theorem allTo_succ {T : List (List RowD)} {k : Nat} (h : k < T.length) : allTo T (k + 1) = allTo T k ++ comTo k T[k] T[k].length := by simp [allTo, List.range_succ, List.getElem?_eq_getElem h]
theorem allTo_zero (T : List (List RowD)) : allTo T 0 = [] := by simp [allTo]
theorem comAt_len (k : Nat) (R : List RowD) (i : Nat) : (comAt k R i).length ≤ 1 := by
  unfold comAt
  split
  · split <;> simp
  · simp
theorem comTo_len (k : Nat) (R : List RowD) (j : Nat) : (comTo k R j).length ≤ j := by
  induction j with
  | zero => simp [comTo]
  | succ j ih =>
    rw [comTo_succ, List.length_append]
    have := comAt_len k R j
    omega
theorem allTo_len {T : List (List RowD)} (hT : ∀ R ∈ T, R.length ≤ 6) (k : Nat) (hk : k ≤ T.length) : (allTo T k).length ≤ 6 * k := by
  induction k with
  | zero => simp [allTo]
  | succ k ih =>
    have h : k < T.length := by omega
    rw [allTo_succ h, List.length_append]
    have h1 := ih (by omega)
    have h2 := comTo_len k T[k] T[k].length
    have h3 := hT _ (List.getElem_mem h)
    omega
/-- What Committed tells. -/
def comR (n : Int) (T : List (List RowD)) : List (List Int) := if goodTab n T then allTo T T.length else []
theorem comR_no {n : Int} {T : List (List RowD)} (h : goodTab n T = false) : comR n T = [] := by unfold comR; rw [h]; rfl
theorem comR_yes {n : Int} {T : List (List RowD)} (h : goodTab n T = true) : comR n T = allTo T T.length := by unfold comR; rw [h]; rfl

theorem fresh_pair (w : World) (o : Obj) (a b : Int) (o' : Obj) : Fresh w.heap.size (((w.alloc o).alloc (.cells #[.int .i64 a, .int .i64 b] 3)).alloc o') (.slice (some ⟨w.heap.size + 1, 0, none⟩) 2 2) [a, b] :=
  (fresh_lit2 w o [a, b] 2 #[.int .i64 a, .int .i64 b] rfl rfl (by simp)).ext (Ext.alloc1 _ _)
theorem cell_alloc_three (w : World) (a b : Obj) (x : Value) (T : TypeId) : (((w.alloc a).alloc b).alloc (.cells #[x] T)).cell? ⟨w.heap.size + 1 + 1, 0, none⟩ = some x := by go_simp

end Go.Proofs.Ytbffkidkfannhaa

namespace Go.Proofs.Ytbffkidkfannhaa
open Go.RowKit
set_option linter.unusedVariables false

/-- The accounts that a command touches. -/
def touchesL (k f t : Int) : List Int := if k == 1 then putI [f] t else if k == 2 then [f] else []
theorem touchesL_1 (f t : Int) : touchesL 1 f t = putI [f] t := rfl
theorem touchesL_2 (f t : Int) : touchesL 2 f t = [f] := rfl
theorem touchesL_else {k : Int} (f t : Int) (h1 : (k == 1) = false) (h2 : (k == 2) = false) : touchesL k f t = [] := by simp [touchesL, h1, h2]

/-- Whether a command touches the account j. -/
def touchB (k f t j : Int) : Bool := if k == 1 then t == j || f == j else if k == 2 then f == j else false

/-- The four marks of touchedBy. -/
def FourB (k f t : Int) (w : World) (e : Ending) (w' : World) : Prop :=
  e = .returned (.agg #[.bool (touchB k f t 0), .bool (touchB k f t 1), .bool (touchB k f t 2), .bool (touchB k f t 3)]) ∧ Ext w w'

theorem codeM_good {i f t a : Int} (h : (codeM i f t a == 0) = true) : (0 ≤ f ∧ f ≤ 3) ∧ (0 ≤ t ∧ t ≤ 3) ∧ f ≠ t ∧ inB i 1 999 = true ∧ inB a 1 1000 = true := by
  unfold codeM at h
  cases h1 : acctB f <;> simp [h1] at h
  cases h2 : acctB t <;> simp [h2] at h
  by_cases h3 : f = t
  · simp [h3] at h
  · simp [h3] at h
    cases h4 : inB i 1 999 <;> simp [h4] at h
    cases h5 : inB a 1 1000 <;> simp [h5] at h
    exact ⟨acctB_yes h1, acctB_yes h2, h3, rfl, rfl⟩
theorem codeR_good {i f : Int} (h : (codeR i f == 0) = true) : (0 ≤ f ∧ f ≤ 3) ∧ inB i 1 999 = true := by
  unfold codeR at h
  cases h1 : acctB f <;> simp [h1] at h
  cases h4 : inB i 1 999 <;> simp [h4] at h
  exact ⟨acctB_yes h1, rfl⟩
/-- What a good command is. -/
theorem goodB_cases {k i f t a : Int} (h : goodB k i f t a = true) : (k = 0 ∧ i = 0 ∧ f = 0 ∧ t = 0 ∧ a = 0) ∨ (k = 1 ∧ (codeM i f t a == 0) = true) ∨ (k = 2 ∧ (codeR i f == 0) = true ∧ t = 0 ∧ a = 0) := by
  by_cases h0 : k = 0
  · subst h0; rw [goodB_0] at h; simp [zeroB] at h; exact .inl ⟨rfl, h.1, h.2.1, h.2.2.1, h.2.2.2⟩
  · by_cases h1 : k = 1
    · subst h1; rw [goodB_1] at h; exact .inr (.inl ⟨rfl, h⟩)
    · by_cases h2 : k = 2
      · subst h2; rw [goodB_2] at h; simp at h; exact .inr (.inr ⟨rfl, by simp [h.1.1], h.1.2, h.2⟩)
      · rw [goodB_else _ _ _ _ (by simp [h0]) (by simp [h1]) (by simp [h2])] at h; cases h

/-- The accounts below n that are touched. -/
def touchedTo (k f t : Int) (n : Nat) : List Int := ((List.range n).filter fun (j : Nat) => touchB k f t (j : Int)).map fun (j : Nat) => (j : Int)
theorem touchedTo_hit {k f t : Int} {n : Nat} (h : touchB k f t (n : Int) = true) : touchedTo k f t (n + 1) = touchedTo k f t n ++ [(n : Int)] := by
  simp [touchedTo, List.range_succ, List.filter_append, h]
theorem touchedTo_miss {k f t : Int} {n : Nat} (h : touchB k f t (n : Int) = false) : touchedTo k f t (n + 1) = touchedTo k f t n := by
  simp [touchedTo, List.range_succ, List.filter_append, h]
theorem touchedTo_len (k f t : Int) (n : Nat) : (touchedTo k f t n).length ≤ n := by
  unfold touchedTo
  rw [List.length_map]
  exact Nat.le_trans (List.length_filter_le _ _) (by simp)
theorem touchedTo_all {k i f t a : Int} (hg : goodB k i f t a = true) : touchedTo k f t 4 = touchesL k f t := by
  rcases goodB_cases hg with ⟨rfl, rfl, rfl, rfl, rfl⟩ | ⟨rfl, hc⟩ | ⟨rfl, hc, rfl, rfl⟩
  · decide
  · obtain ⟨hf, ht, hne, _, _⟩ := codeM_good hc
    have hf' : f = 0 ∨ f = 1 ∨ f = 2 ∨ f = 3 := by omega
    have ht' : t = 0 ∨ t = 1 ∨ t = 2 ∨ t = 3 := by omega
    clear hf ht hc hg
    rcases hf' with rfl | rfl | rfl | rfl <;> rcases ht' with rfl | rfl | rfl | rfl <;> first | (exact absurd rfl hne) | decide
  · have hf := (codeR_good hc).1
    have hf' : f = 0 ∨ f = 1 ∨ f = 2 ∨ f = 3 := by omega
    clear hf hc hg
    rcases hf' with rfl | rfl | rfl | rfl <;> decide

end Go.Proofs.Ytbffkidkfannhaa

namespace Go.Proofs.Ytbffkidkfannhaa
open Go.RowKit
set_option linter.unusedVariables false

def touchesOf (k i f t a : Int) : List Int := if goodB k i f t a then touchesL k f t else []
theorem touchesOf_good {k i f t a : Int} (h : goodB k i f t a = true) : touchesOf k i f t a = touchesL k f t := by unfold touchesOf; rw [h]; rfl
theorem touchesOf_bad {k i f t a : Int} (h : goodB k i f t a = false) : touchesOf k i f t a = [] := by unfold touchesOf; rw [h]; rfl

end Go.Proofs.Ytbffkidkfannhaa

namespace Go.Proofs.Ytbffkidkfannhaa
open Go.RowKit
set_option linter.unusedVariables false

/-- Whether two commands touch some one account. -/
def interL (l r : List Int) : Bool := l.any fun x => hasI r x
def interB (k f t k' f' t' : Int) : Bool := interL (touchesL k f t) (touchesL k' f' t')

theorem putI_one_len (f t : Int) : (putI [f] t).length ≤ 2 := by
  unfold putI
  split
  · simp
  · simp; omega
theorem touchesL_len (k f t : Int) : (touchesL k f t).length ≤ 2 := by
  unfold touchesL
  split
  · exact putI_one_len f t
  · split <;> simp

end Go.Proofs.Ytbffkidkfannhaa
