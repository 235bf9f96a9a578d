/- Texts of this proof, part t: words, plain facts, contracts. -/
import Derived.Test.YtjkmhphnefpdoaaGreatMBagForr
import Derived.Test.YtjkmhphnefpdoaaGreatMBagFors
import Derived.Test.YtjkmhphnefpdoaaGreatMBagForp1
import Derived.Test.YtjkmhphnefpdoaaGreatMBagForq4
import Derived.Test.YtjkmhphnefpdoaaGreatMBagFord
import Derived.Test.YtjkmhphnefpdoaaGreatMBagForc
import Derived.Test.YtjkmhphnefpdoaaGreatMBagForh
import Derived.Test.YtjkmhphnefpdoaaGreatMBagForf

namespace Go.Proofs.YtjkmhphnefpdoaaGreat
open Go.RowKit
set_option linter.unusedVariables false

def lastR (L : List LeadD) (k : Nat) : Int := match k with
  | 0 => 0
  | j + 1 => match L[j]? with
    | none => 0
    | some d => d.rp
def lastN (L : List LeadD) (k : Nat) : Int := match k with
  | 0 => 0
  | j + 1 => match L[j]? with
    | none => 0
    | some d => d.no
theorem last_next {L : List LeadD} {k : Nat} (h : k < L.length) : lastR L (k + 1) = L[k].rp ∧ lastN L (k + 1) = L[k].no := by
  unfold lastR lastN
  simp only [List.getElem?_eq_getElem h, and_self]
theorem leadB_inst {n me : Int} {d : LeadD} (h : leadB n me d = true) : 0 ≤ d.rp ∧ 1 ≤ d.no := by
  unfold leadB headL instB inB at h
  simp only [Bool.and_eq_true, decide_eq_true_eq] at h
  exact ⟨h.1.1.1.1, h.1.1.2.1⟩
theorem cmp2_lex (a b c d : Int) : decide ((0 : Int) ≤ cmp2 a b c d) = !(!(decide (c < a)) && !(a == c && decide (d ≤ b))) := by
  unfold cmp2 cmpI
  by_cases h1 : a < c
  · have e : (a == c) = false := by simp; omega
    rw [if_pos h1, e, decide_eq_false (show ¬ c < a by omega)]; rfl
  · rw [if_neg h1]
    by_cases h2 : c < a
    · rw [if_pos h2, decide_eq_true h2]; rfl
    · have e : (a == c) = true := by simp; omega
      rw [if_neg h2, e, decide_eq_false h2]
      simp only [if_true]
      by_cases h3 : b < d
      · rw [if_pos h3, decide_eq_false (show ¬ d ≤ b by omega)]; rfl
      · rw [if_neg h3, decide_eq_true (show d ≤ b by omega)]
        by_cases h4 : d < b
        · rw [if_pos h4]; rfl
        · rw [if_neg h4]; rfl
theorem stepL_cmp {n me : Int} {L : List LeadD} {k : Nat} (h : k < L.length) : stepL n me L k = (leadB n me L[k] && !decide ((0 : Int) ≤ cmp2 (lastR L k) (lastN L k) L[k].rp L[k].no)) := by
  cases k with
  | zero =>
    have e : stepL n me L 0 = leadB n me L[0] := by
      unfold stepL
      rw [List.getElem?_eq_getElem h]
      simp only [Bool.and_true]
    rw [e]
    cases hb : leadB n me L[0] with
    | false => rfl
    | true =>
      obtain ⟨h1, h2⟩ := leadB_inst hb
      have : decide ((0 : Int) ≤ cmp2 (lastR L 0) (lastN L 0) L[0].rp L[0].no) = false := by
        rw [cmp2_lex]
        have e1 : lastR L 0 = 0 := rfl
        have e2 : lastN L 0 = 0 := rfl
        rw [e1, e2, decide_eq_false (show ¬ L[0].rp < 0 by omega), decide_eq_false (show ¬ L[0].no ≤ 0 by omega)]
        simp
      rw [this]; rfl
  | succ j =>
    obtain ⟨e1, e2⟩ := last_next (show j < L.length by omega)
    rw [cmp2_lex, e1, e2, Bool.not_not]
    unfold stepL
    rw [List.getElem?_eq_getElem h]
    simp only [List.getElem?_eq_getElem (show j < L.length by omega)]
    rfl
/-- The block of a local instance. -/
theorem last_new (w : World) (T : TypeId) : BoxV (w.alloc (.cells #[.int .i64 0, .int .i64 0] T)) w.heap.size [.int .i64 0, .int .i64 0] := boxV_new w [.int .i64 0, .int .i64 0] T

set_option maxHeartbeats 8000000 in
set_option maxRecDepth 100000 in
theorem implGoodRep_any (me n : Int) (u v : Value) (T : List (List RowD)) (L : List LeadD) (w : World) (hu : Rowzz w u T) (hv : Leadz w v L) (hs : bulkT T ≤ 1099511627776) (hl : bulkL L ≤ 549755813888) :
    Calls Tryz.prog 63 #[.agg #[.int .i64 me, .int .i64 n, u, v]] w (BoolExt (goodRep me n T L) w) := by
  obtain ⟨wb, hwb⟩ : ∃ wb, wb = w.alloc (.cells #[.int .i64 me, .int .i64 n, u, v] 58) := ⟨_, rfl⟩
  have x0 : Ext w wb := by rw [hwb]; exact Ext.alloc1 _ _
  have HR := Lib.hid (show RepAt wb w.heap.size me n u v by rw [hwb]; exact repAt_new _ _ _ _ _ _)
  have HU := Lib.hid (hu.ext x0)
  have HZ : Hid (w.heap.size < wb.heap.size) := Lib.hid (by rw [hwb]; simp)
  have HX0 := Lib.hid x0
  have HW := Lib.hid hwb
  have HS := Lib.hid hs
  have HL := Lib.hid hl
  obtain ⟨av, cv, rfl, hlv, _, hcv⟩ := hv
  unfold maxLen at hlv
  have HCV := Lib.hid hcv
  clear hu hwb x0 hcv hs hl
  go_enter Tryz.func63, Tryz.ntmps63
  obtain ⟨p0, p1, p2, p3⟩ := HR.out
  go_wp2_with fail
  rw [← HW.out]
  refine (implGoodTable_any n u T _ HU.out HS.out).mono ?_
  rintro e w1 ⟨rfl, x1⟩
  have HX1 := Lib.hid (HX0.out.trans x1)
  have HX1w := Lib.hid x1
  clear x1 p0 p1 p2 p3 HX0
  cases hg : goodTab n T with
  | false =>
    have HO : Hid (goodRep me n T L = false) := Lib.hid (by unfold goodRep; rw [hg]; rfl)
    go_wp2
    go_ret
    exact ⟨by rw [HO.out]; rfl, HX1.out⟩
  | true =>
    have HG := Lib.hid hg
    have HN := Lib.hid (goodTab_isGrp hg)
    clear hg
    obtain ⟨p0, p1, p2, p3⟩ := HR.out.ext HX1w.out
    go_wp2_with fail
    refine (isReplica_any n me _).mono ?_
    rintro e w2 ⟨rfl, rfl⟩
    have hrep : repB n me = inB me 0 (n - 1) := by unfold repB; rw [HN.out, Bool.true_and]
    rw [hrep]
    clear hrep p0 p1 p2 p3
    cases hm : inB me 0 (n - 1) with
    | false =>
      have HO : Hid (goodRep me n T L = false) := Lib.hid (by unfold goodRep; rw [hm, Bool.false_and, Bool.and_false])
      go_wp2
      go_ret
      exact ⟨by rw [HO.out]; rfl, HX1.out⟩
    | true =>
      have HM := Lib.hid hm
      clear hm
      obtain ⟨X, hX⟩ : ∃ X, X = w1.heap.size := ⟨_, rfl⟩
      obtain ⟨wl, hwl⟩ : ∃ wl, wl = w1.alloc (.cells #[.int .i64 0, .int .i64 0] 130) := ⟨_, rfl⟩
      have xl : Ext w1 wl := by rw [hwl]; exact Ext.alloc1 _ _
      have HB0 : Hid (BoxV wl X [.int .i64 (lastR L 0), .int .i64 (lastN L 0)]) := Lib.hid (by rw [hwl, hX]; exact last_new _ _)
      have HXb : Hid (wb.heap.size ≤ X) := Lib.hid (by rw [hX]; exact HX1w.out.size)
      have HXw : Hid (w.heap.size < X) := Lib.hid (Nat.lt_of_lt_of_le HZ.out HXb.out)
      have HX2 := Lib.hid (HX1.out.trans xl)
      have HX2w := Lib.hid (HX1w.out.trans xl)
      obtain ⟨p0, p1, p2, p3⟩ := HR.out.ext HX2w.out
      rw [hwl] at p0 p1 p2 p3
      have HWL := Lib.hid hwl
      have HXX := Lib.hid hX
      clear hX hwl xl
      go_wp2
      rw [← HWL.out, ← HXX.out]
      clear p0 p1 p2 p3
      go_loopw [23] (fun i wr => ∃ k : Nat, k ≤ L.length ∧ i = .int .i64 k ∧ Hid (∀ j, j < k → stepL n me L j = true) ∧ Hid (Ext w wr) ∧ Hid (Ext wb wr) ∧ Hid (BoxV wr X [.int .i64 (lastR L k), .int .i64 (lastN L k)])) (fun i _ => L.length - (intOf i).toNat)
      case atStart => exact ⟨0, Nat.zero_le _, rfl, Lib.hid (fun j h => by omega), HX2, HX2w, HB0⟩
      case round =>
        obtain ⟨k, hk, rfl, HT, HX, HXW, HB⟩ := hrel
        by_cases hlt : k < L.length
        · obtain ⟨b, off, rfl, dv⟩ := HCV.out (by omega)
          obtain ⟨d, hd⟩ : ∃ d, d = L[k] := ⟨_, rfl⟩
          obtain ⟨u1, u2, u3, u4, hy, iy⟩ := dv k hlt
          rw [← hd] at hy iy
          obtain ⟨b1, c1, rfl, _⟩ := id iy.i1
          obtain ⟨b2, c2, rfl, _⟩ := id iy.i2
          obtain ⟨b3, c3, rfl, _⟩ := id iy.i3
          obtain ⟨b4, c4, rfl, _⟩ := id iy.i4
          have HD := Lib.hid hd
          have HLT := Lib.hid hlt
          obtain ⟨rp, hrp⟩ : ∃ rp, rp = lastR L k := ⟨_, rfl⟩
          obtain ⟨rn, hrn⟩ : ∃ rn, rn = lastN L k := ⟨_, rfl⟩
          rw [← hrp, ← hrn] at HB
          have HSTEP : Hid (stepL n me L k = (leadB n me d && !decide ((0 : Int) ≤ cmp2 rp rn d.rp d.no))) := Lib.hid (by rw [hrp, hrn, hd]; exact stepL_cmp hlt)
          have HBD : Hid (bulkD d ≤ 1099511627776) := Lib.hid (by rw [hd]; have := bulkL_lead hlt; have := HL.out; omega)
          obtain ⟨a0, a1, a2, a3, a4, a5, a6, a7, a8, a9, a10, a11, a12, a13, a14, a15⟩ := leadIn_cells (hy.ext HX.out)
          obtain ⟨w2, hw2⟩ : ∃ w2, w2 = wr.alloc (.cells #[.int .i64 d.rp, .int .i64 d.no, .int .i64 d.bl, .int .i64 d.ph, .int .i64 d.k, .int .i64 d.i, .int .i64 d.f, .int .i64 d.t, .int .i64 d.a, .int .i64 d.s1, .slice b1 d.l1.length c1, .int .i64 d.s2, .slice b2 d.l2.length c2, .bool d.sm, .slice b3 d.who.length c3, .slice b4 d.seen.length c4] 125) := ⟨_, rfl⟩
          obtain ⟨w3, hw3⟩ : ∃ w3, w3 = w2.alloc (.cells #[.int .i64 d.rp, .int .i64 d.no] 130) := ⟨_, rfl⟩
          have x2 : Ext wr w2 := by rw [hw2]; exact Ext.alloc1 _ _
          have x3 : Ext w2 w3 := by rw [hw3]; exact Ext.alloc1 _ _
          have hz2 : w2.heap.size = wr.heap.size + 1 := by rw [hw2]; simp
          have HY : Hid (BoxV w3 wr.heap.size (leadVs d (.slice b1 d.l1.length c1) (.slice b2 d.l2.length c2) (.slice b3 d.who.length c3) (.slice b4 d.seen.length c4))) := Lib.hid (by
            refine BoxV.ext ?_ x3
            rw [hw2]; exact lead_box wr _ d _ _ _ _)
          have HZZ : Hid (BoxV w3 (wr.heap.size + 1) [.int .i64 d.rp, .int .i64 d.no]) := Lib.hid (by rw [← hz2, hw3]; exact boxV_new w2 [.int .i64 d.rp, .int .i64 d.no] _)
          have HB3 := Lib.hid (HB.out.ext (x2.trans x3))
          have X3 := Lib.hid (HX.out.trans (x2.trans x3))
          have X3W := Lib.hid (HXW.out.trans (x2.trans x3))
          have IY := Lib.hid ((iy.ext HX.out).ext (x2.trans x3))
          have l0 := HB3.out.cell 0 _ rfl
          have l1 := HB3.out.cell 1 _ rfl
          have hlX : X < wr.heap.size := HB.out.lt
          rw [hw3, hw2] at l0 l1
          have HW3 := Lib.hid (hw3.trans (by rw [hw2]))
          clear dv hd hy iy hw2 hw3 x2 x3 hz2 hrp hrn
          go_wp2_with fail
          rw [← HW3.out]
          refine (cmpInst_any rp rn d.rp d.no _).mono ?_
          rintro e w4 ⟨rfl, g4⟩
          have x4 := g4.ext
          have HB4 := Lib.hid (HB3.out.ext x4)
          have HY4 := Lib.hid (HY.out.ext x4)
          have HZ4 := Lib.hid (HZZ.out.ext x4)
          have X4 := Lib.hid (X3.out.trans x4)
          have X4W := Lib.hid (X3W.out.trans x4)
          have IY4 := Lib.hid (IY.out.ext x4)
          clear x4 g4 l0 l1 a0 a1 a2 a3 a4 a5 a6 a7 a8 a9 a10 a11 a12 a13 a14 a15 HB3 HY HZZ X3 X3W IY HW3
          obtain ⟨c, hc⟩ : ∃ c, c = cmp2 rp rn d.rp d.no := ⟨_, rfl⟩
          rw [← hc] at HSTEP ⊢
          clear hc
          as_aux_lemma =>
            by_cases hc0 : 0 ≤ c
            · have HO : Hid (goodRep me n T L = false) := Lib.hid (goodRep_no HLT.out (by rw [HSTEP.out, decide_eq_true hc0]; simp))
              go_wp2
              go_ret
              exact ⟨by rw [HO.out]; rfl, X4.out⟩
            · skip
              as_aux_lemma =>
                obtain ⟨p0, p1, p2, p3⟩ := HR.out.ext X4W.out
                obtain ⟨a0, a1, a2, a3, a4, a5, a6, a7, a8, a9, a10, a11, a12, a13, a14, a15⟩ := lead_cells HY4.out
                have HC := Lib.hid hc0
                go_wp2_with fail
                refine (isGoodLead_any n me d _ _ _ _ _ IY4.out HN.out HBD.out).mono ?_
                rintro e w5 ⟨rfl, x5⟩
                have HB5 := Lib.hid (HB4.out.ext x5)
                have HZ5 := Lib.hid (HZ4.out.ext x5)
                have X5 := Lib.hid (X4.out.trans x5)
                have X5W := Lib.hid (X4W.out.trans x5)
                clear x5 p0 p1 p2 p3 a0 a1 a2 a3 a4 a5 a6 a7 a8 a9 a10 a11 a12 a13 a14 a15 HB4 HY4 HZ4 X4 X4W IY4
                cases hb : leadB n me d with
                | false =>
                  have HO : Hid (goodRep me n T L = false) := Lib.hid (goodRep_no HLT.out (by rw [HSTEP.out, hb]; rfl))
                  go_wp2
                  go_ret
                  exact ⟨by rw [HO.out]; rfl, X5.out⟩
                | true =>
                  have HT1 : Hid (∀ j, j < k + 1 → stepL n me L j = true) := Lib.hid (step_succ HT.out (by rw [HSTEP.out, hb, decide_eq_false (show ¬ (0 : Int) ≤ c by have := HC.out; omega)]; rfl))
                  have l0 := HB5.out.cell 0 _ rfl
                  have l1 := HB5.out.cell 1 _ rfl
                  have f0 := HB5.out.free 0 (of_decide_eq_true rfl)
                  have f1 := HB5.out.free 1 (of_decide_eq_true rfl)
                  have z0 := HZ5.out.cell 0 _ rfl
                  have z1 := HZ5.out.cell 1 _ rfl
                  have HBN : Hid (BoxV ((w5.setCell ⟨X, 0, none⟩ (.int .i64 d.rp)).setCell ⟨X, 1, none⟩ (.int .i64 d.no)) X [.int .i64 (lastR L (k + 1)), .int .i64 (lastN L (k + 1))]) := Lib.hid (by
                    rw [(last_next HLT.out).1, (last_next HLT.out).2, ← HD.out]
                    exact (HB5.out.set 0 (.int .i64 d.rp) (of_decide_eq_true rfl)).set 1 (.int .i64 d.no) (of_decide_eq_true rfl))
                  have HXN : Hid (Ext w ((w5.setCell ⟨X, 0, none⟩ (.int .i64 d.rp)).setCell ⟨X, 1, none⟩ (.int .i64 d.no))) := Lib.hid ((X5.out.setc (Nat.le_of_lt HXw.out)).setc (Nat.le_of_lt HXw.out))
                  have HXWN : Hid (Ext wb ((w5.setCell ⟨X, 0, none⟩ (.int .i64 d.rp)).setCell ⟨X, 1, none⟩ (.int .i64 d.no))) := Lib.hid ((X5W.out.setc HXb.out).setc HXb.out)
                  clear hb
                  go_wp2
                  go_roundw
                  case rel => exact ⟨k + 1, by have := HLT.out; omega, by go_num, HT1, HXN, HXWN, HBN⟩
                  case measure => simp [intOf]; have := HLT.out; omega
        · obtain rfl : k = L.length := by omega
          have HO : Hid (goodRep me n T L = true) := Lib.hid (goodRep_yes HG.out HM.out HT.out)
          go_wp2
          go_ret
          exact ⟨by rw [HO.out]; rfl, HX.out⟩
end Go.Proofs.YtjkmhphnefpdoaaGreat

namespace Go.Proofs.YtjkmhphnefpdoaaGreat
open Go.RowKit
set_option linter.unusedVariables false

set_option maxHeartbeats 8000000 in
set_option maxRecDepth 100000 in
theorem areReps_any (n : Int) (u : Value) (R : List RepD) (w : World) (hu : Repz w u R) (hs : bulkRep R ≤ 549755813888) :
    Calls Tryz.prog 45 #[.int .i64 n, u] w (BoolExt (repsB n R) w) := by
  obtain ⟨au, cu, rfl, hlu, _, hcu⟩ := hu
  unfold maxLen at hlu
  have HCU := Lib.hid hcu
  have HS := Lib.hid hs
  clear hcu hs
  go_enter Tryz.func45, Tryz.ntmps45
  go_wp2
  go_loopw [9] (fun i wr => ∃ k : Nat, k ≤ R.length ∧ i = .int .i64 k ∧ Hid (∀ j, j < k → repAtB n R j = true) ∧ Hid (Ext w wr)) (fun i _ => R.length - (intOf i).toNat)
  case atStart => exact ⟨0, Nat.zero_le _, rfl, Lib.hid (fun j h => by omega), Lib.hid (Ext.refl _)⟩
  case round =>
    obtain ⟨k, hk, rfl, HT, HX⟩ := hrel
    by_cases hlt : k < R.length
    · obtain ⟨b, off, rfl, dv⟩ := HCU.out (by omega)
      obtain ⟨d, hd⟩ : ∃ d, d = R[k] := ⟨_, rfl⟩
      obtain ⟨y1, y2, hy, iy⟩ := dv k hlt
      rw [← hd] at hy iy
      obtain ⟨b1, c1, rfl, _⟩ := id iy.i1
      obtain ⟨b2, c2, rfl, _⟩ := id iy.i2
      have hbk : bulkT d.T + bulkL d.L ≤ 549755813888 := by rw [hd]; have h1 := bulkRep_at hlt; have h2 := HS.out; unfold bulk1Rep at h1; omega
      obtain ⟨a0, a1, a2, a3⟩ := repIn_cells (hy.ext HX.out)
      obtain ⟨w3, hw3⟩ : ∃ w3, w3 = wr.alloc (.cells #[.int .i64 d.me, .int .i64 d.n, .slice b1 d.T.length c1, .slice b2 d.L.length c2] 58) := ⟨_, rfl⟩
      have x3 : Ext wr w3 := by rw [hw3]; exact Ext.alloc1 _ _
      have IY := Lib.hid ((iy.ext HX.out).ext x3)
      have HAT : Hid (repAtB n R k = (goodRep d.me d.n d.T d.L && (d.me == (k : Int) && d.n == n))) := Lib.hid (by rw [hd]; exact repAtB_get hlt)
      have HLT := Lib.hid hlt
      have HBK := Lib.hid hbk
      have X3 := Lib.hid (HX.out.trans x3)
      have HW3 := Lib.hid hw3
      clear dv hy iy hd hw3 x3 hbk
      as_aux_lemma =>
        cases h2 : (d.me == (k : Int)) with
        | false =>
          have h2' : (d.me != (k : Int)) = true := by simpa using h2
          have HO : Hid (repsB n R = false) := Lib.hid (rangeAll_no HLT.out (by rw [HAT.out, h2]; simp))
          go_wp2
          go_ret
          exact ⟨by rw [HO.out]; rfl, by rw [← HW3.out]; exact X3.out⟩
        | true =>
          have h2' : (d.me != (k : Int)) = false := by simpa using h2
          cases h3 : (d.n == n) with
          | false =>
            have h3' : (d.n != n) = true := by simpa using h3
            have HO : Hid (repsB n R = false) := Lib.hid (rangeAll_no HLT.out (by rw [HAT.out, h3]; simp))
            go_wp2
            go_ret
            exact ⟨by rw [HO.out]; rfl, by rw [← HW3.out]; exact X3.out⟩
          | true =>
            have h3' : (d.n != n) = false := by simpa using h3
            have HS1 : Hid (repAtB n R k = goodRep d.me d.n d.T d.L) := Lib.hid (by rw [HAT.out, h2, h3]; simp)
            clear h2 h3
            go_wp2_with fail
            rw [← HW3.out]
            refine (implGoodRep_any d.me d.n _ _ d.T d.L _ IY.out.i1 IY.out.i2 (by have := HBK.out; omega) (by have := HBK.out; omega)).mono ?_
            rintro e w4 ⟨rfl, x4⟩
            have X4 := Lib.hid (X3.out.trans x4)
            clear x4 a0 a1 a2 a3 X3 IY HW3
            cases h1 : goodRep d.me d.n d.T d.L with
            | false =>
              have HO : Hid (repsB n R = false) := Lib.hid (rangeAll_no HLT.out (by rw [HS1.out, h1]))
              go_wp2
              go_ret
              exact ⟨by rw [HO.out]; rfl, X4.out⟩
            | true =>
              have HT1 : Hid (∀ j, j < k + 1 → repAtB n R j = true) := Lib.hid (upTo_succ HT.out (by rw [HS1.out, h1]))
              go_wp2
              go_roundw
              case rel => exact ⟨k + 1, by have := HLT.out; omega, by go_num, HT1, X4⟩
              case measure => simp [intOf]; have := HLT.out; omega
    · obtain rfl : k = R.length := by omega
      have HO : Hid (repsB n R = true) := Lib.hid (rangeAll_yes HT.out)
      go_wp2
      go_ret
      exact ⟨by rw [HO.out]; rfl, HX.out⟩
set_option maxHeartbeats 8000000 in
set_option maxRecDepth 100000 in
theorem areMsgs_any (n : Int) (v : Value) (M : List MsgD) (w : World) (hv : Mesz w v M) (hs : bulkMes M ≤ 549755813888) :
    Calls Tryz.prog 46 #[.int .i64 n, v] w (BoolExt (mesB n M) w) := by
  obtain ⟨av, cv, rfl, hlv, _, hcv⟩ := hv
  unfold maxLen at hlv
  have HCV := Lib.hid hcv
  have HS := Lib.hid hs
  clear hcv hs
  by_cases hm : (80 : Int) < (M.length : Int)
  · have HO : Hid (mesB n M = false) := Lib.hid (mesB_long (by omega))
    go_enter Tryz.func46, Tryz.ntmps46
    go_wp2
    go_ret
    exact ⟨by rw [HO.out]; rfl, Ext.refl _⟩
  · have HM : Hid (M.length ≤ 80) := Lib.hid (by omega)
    go_enter Tryz.func46, Tryz.ntmps46
    go_wp2
    clear hm
    go_loopw [12] (fun i wr => ∃ k : Nat, k ≤ M.length ∧ i = .int .i64 k ∧ Hid (∀ j, j < k → mesAtB n M j = true) ∧ Hid (Ext w wr)) (fun i _ => M.length - (intOf i).toNat)
    case atStart => exact ⟨0, Nat.zero_le _, rfl, Lib.hid (fun j h => by omega), Lib.hid (Ext.refl _)⟩
    case round =>
      obtain ⟨k, hk, rfl, HT, HY⟩ := hrel
      by_cases hlt : k < M.length
      · obtain ⟨b, off, rfl, dv⟩ := HCV.out (by omega)
        obtain ⟨d, hd⟩ : ∃ d, d = M[k] := ⟨_, rfl⟩
        obtain ⟨y1, hy, iy⟩ := dv k hlt
        rw [← hd] at hy iy
        obtain ⟨b1, c1, rfl, _⟩ := id iy.i1
        have hbk : d.l.length ≤ 1099511627776 := by rw [hd]; have h1 := bulkMes_at hlt; have h2 := HS.out; unfold bulk1Mes at h1; omega
        obtain ⟨a0, a1, a2, a3, a4, a5, a6, a7, a8, a9, a10, a11, a12, a13, a14⟩ := mesIn_cells (hy.ext HY.out)
        obtain ⟨w3, hw3⟩ : ∃ w3, w3 = wr.alloc (.cells #[.int .i64 d.kd, .int .i64 d.fr, .int .i64 d.tt, .int .i64 d.rp, .int .i64 d.no, .int .i64 d.b, .int .i64 d.v, .int .i64 d.st, .int .i64 d.k, .int .i64 d.i, .int .i64 d.f, .int .i64 d.t, .int .i64 d.a, .int .i64 d.s, .slice b1 d.l.length c1] 80) := ⟨_, rfl⟩
        have x3 : Ext wr w3 := by rw [hw3]; exact Ext.alloc1 _ _
        have IY := Lib.hid ((iy.ext HY.out).ext x3)
        obtain ⟨c, hc⟩ : ∃ c, c = goodM n d := ⟨_, rfl⟩
        have HAT : Hid (mesAtB n M k = c) := Lib.hid (by rw [hc, hd]; exact mesAtB_get hlt)
        have HC := Lib.hid hc
        have HLT := Lib.hid hlt
        have HBK := Lib.hid hbk
        have X3 := Lib.hid (HY.out.trans x3)
        have HW3 := Lib.hid hw3
        clear dv hy iy hd hw3 x3 hc hbk
        go_wp2_with fail
        rw [← HW3.out]
        have hcc := implGoodMsg_any n d _ _ IY.out.i1 HBK.out
        rw [← HC.out] at hcc
        refine hcc.mono ?_
        rintro e w4 ⟨rfl, x4⟩
        have X4 := Lib.hid (X3.out.trans x4)
        clear x4 hcc a0 a1 a2 a3 a4 a5 a6 a7 a8 a9 a10 a11 a12 a13 a14 X3 IY HW3
        cases c with
        | false =>
          have HO : Hid (mesB n M = false) := Lib.hid (mesB_no HLT.out HAT.out)
          go_wp2
          go_ret
          exact ⟨by rw [HO.out]; rfl, X4.out⟩
        | true =>
          have HT1 : Hid (∀ j, j < k + 1 → mesAtB n M j = true) := Lib.hid (upTo_succ HT.out HAT.out)
          go_wp2
          go_roundw
          case rel => exact ⟨k + 1, by have := HLT.out; omega, by go_num, HT1, X4⟩
          case measure => simp [intOf]; have := HLT.out; omega
      · obtain rfl : k = M.length := by omega
        have HO : Hid (mesB n M = true) := Lib.hid (mesB_yes HM.out HT.out)
        go_wp2
        go_ret
        exact ⟨by rw [HO.out]; rfl, HY.out⟩
end Go.Proofs.YtjkmhphnefpdoaaGreat

namespace Go.Proofs.YtjkmhphnefpdoaaGreat
open Go.RowKit Go.Maps
set_option linter.unusedVariables false

def inA (M : List (Nat × Nat)) (p q : Nat) : Bool := decide ((p, q) ∈ M)
def instOf (d : AskD) : Nat × Nat := (d.rp.toNat, (d.no - 1).toNat)
theorem inst_small {n : Int} {d : AskD} (hn : n ≤ 5) (h : instB n d.rp d.no = true) : (instOf d).1 < 5 ∧ (instOf d).2 < 6 ∧ d.rp = ((instOf d).1 : Int) ∧ d.no = ((instOf d).2 : Int) + 1 := by
  unfold instB inB at h
  simp only [Bool.and_eq_true, decide_eq_true_eq] at h
  unfold instOf
  simp only
  omega
theorem ask_inst {n : Int} {K : List AskD} {j : Nat} (h : j < K.length) (ha : askAt n K j = true) : instB n K[j].rp K[j].no = true := by
  rw [askAt_get h] at ha
  unfold ask1 at ha
  simp only [Bool.and_eq_true] at ha
  exact ha.1.1
theorem mem_inst {n : Int} {K : List AskD} {k : Nat} {d : AskD} (hn : n ≤ 5) (hk : k ≤ K.length) (ha : ∀ j, j < k → askAt n K j = true) (hd : instB n d.rp d.no = true) :
    decide (instOf d ∈ (K.take k).map instOf) = (K.take k).any (sameAt d) := by
  obtain ⟨_, _, e1, e2⟩ := inst_small hn hd
  rw [Bool.eq_iff_iff, decide_eq_true_eq, List.mem_map, List.any_eq_true]
  constructor
  · rintro ⟨y, hy, he⟩
    refine ⟨y, hy, ?_⟩
    obtain ⟨j, hj, rfl⟩ := List.mem_iff_getElem.1 hy
    rw [List.length_take] at hj
    rw [List.getElem_take] at he ⊢
    obtain ⟨_, _, f1, f2⟩ := inst_small hn (ask_inst (by omega) (ha j (by omega)))
    unfold sameAt
    rw [e1, e2, f1, f2, he]
    simp
  · rintro ⟨y, hy, he⟩
    refine ⟨y, hy, ?_⟩
    unfold sameAt at he
    simp only [Bool.and_eq_true, beq_iff_eq] at he
    unfold instOf
    rw [he.1, he.2]
theorem MapOf.lacks {D : DataW Value} {S : Nat → Nat → Bool} {f : Nat → Nat → Value} (h : MapOf D S f) {p q : Nat} (hl : p ≤ 1048576 ∧ q ≤ 1048576) (hs : S p q = false) : Maps.has D (kl (p : Int) ((q : Int) + 1)) = false := by
  cases hb : Maps.has D (kl (p : Int) ((q : Int) + 1)) with
  | false => rfl
  | true =>
    obtain ⟨p', q', e, hs'⟩ := h.keys _ hb
    have hl' := h.low p' q' hs'
    by_cases e2 : p = p' ∧ q = q'
    · obtain ⟨rfl, rfl⟩ := e2
      rw [hs] at hs'
      cases hs'
    · exact absurd e (kl_ne hl hl' e2)
theorem zeroBoolV (W : World) : (zeroValue 4).run Tryz.prog W = .ok (.bool false) W := by kernel_rfl
theorem askedAt {W : World} {b n0 : Nat} {D : DataW Value} {B : List (Nat × Nat)} (hm : RowMap W b n0 D) (hd : MapOf D (inA B) (fun _ _ => .bool true)) {p q : Nat} (hl : p < 5 ∧ q < 6) :
    (Instr.lookup 154 (.map (some b)) (.agg #[.int .i64 p, .int .i64 ((q : Int) + 1)]) false).run Tryz.prog W = .ok (.bool (decide ((p, q) ∈ B))) W := by
  obtain ⟨v, ps, hrun, hv⟩ := hm.lookup instKeyed Tryz.underlying154 (zeroBoolV W) (zd := .held _) (zp := []) rfl (keyOf_inst (a := p) (b := (q : Int) + 1) (wf_small (by omega) (by omega)) (wf_small (by omega) (by omega)))
  by_cases h : (p, q) ∈ B
  · have hs : inA B p q = true := decide_eq_true h
    rw [hd.val p q hs] at hv
    simp only [asIs, Option.some.injEq, Prod.mk.injEq, DataW.held.injEq] at hv
    rw [hv.1] at hrun
    rw [decide_eq_true h]
    exact hrun
  · have hs : inA B p q = false := decide_eq_false h
    have hn := hd.lacks (p := p) (q := q) (by omega) hs
    rw [Maps.atKey_of_not_has hn] at hv
    simp only [asIs, Option.some.injEq, Prod.mk.injEq, DataW.held.injEq] at hv
    rw [hv.1] at hrun
    rw [decide_eq_false h]
    exact hrun
/-- The map holds the first k; nothing that was there at first is turned. -/
def AskW (w0 wr : World) (b k : Nat) (B : List (Nat × Nat)) : Prop := (∃ D, RowMap wr b k D ∧ MapOf D (inA B) (fun _ _ => .bool true)) ∧ Ext w0 wr
theorem AskW.step {w0 wr w' : World} {b k : Nat} {B : List (Nat × Nat)} {D : DataW Value} (hd : MapOf D (inA B) (fun _ _ => .bool true)) (hx : Ext w0 wr) (hb : w0.heap.size ≤ b) {p q : Nat} (hl : p < 5 ∧ q < 6)
    (hown : RowMap w' b (k + 1) (D.put (kl (p : Int) ((q : Int) + 1)) (.held (.bool true)))) (hg : wr.grownBy w' (some b)) : AskW w0 w' b (k + 1) (B ++ [(p, q)]) := by
  refine ⟨⟨_, hown, ?_⟩, (Ins.of_grown (lo := w0.heap.size) (hi := b + 1) hg (fun g e => by cases e; exact ⟨hb, Nat.lt_succ_self _⟩)).ext hx (Nat.le_refl _)⟩
  refine (hd.put (by omega) rfl).congr (fun a c => ?_) (fun _ _ _ => rfl)
  unfold inA
  rw [Bool.eq_iff_iff]
  simp

theorem canBe_any (k i f t a : Int) (w : World) : Calls Tryz.prog 64 #[.agg #[.int .i64 k, .int .i64 i, .int .i64 f, .int .i64 t, .int .i64 a]] w (BoolExt (goodB k i f t a && !(k == 0)) w) := by
  obtain ⟨wb, hwb⟩ : ∃ wb, wb = w.alloc (.cells #[.int .i64 k, .int .i64 i, .int .i64 f, .int .i64 t, .int .i64 a] 62) := ⟨_, rfl⟩
  have xb : Ext w wb := by rw [hwb]; exact Ext.alloc1 _ _
  have hb : BoxV wb w.heap.size [.int .i64 k, .int .i64 i, .int .i64 f, .int .i64 t, .int .i64 a] := by rw [hwb]; exact boxV_new w [.int .i64 k, .int .i64 i, .int .i64 f, .int .i64 t, .int .i64 a] _
  have HB := Lib.hid hb
  have XB := Lib.hid xb
  have HWB := Lib.hid hwb
  have c0 := hb.cell 0 _ rfl
  have c1 := hb.cell 1 _ rfl
  have c2 := hb.cell 2 _ rfl
  have c3 := hb.cell 3 _ rfl
  have c4 := hb.cell 4 _ rfl
  rw [hwb] at c0 c1 c2 c3 c4
  clear hb xb hwb
  go_enter Tryz.func64, Tryz.ntmps64
  go_wp2_with fail
  rw [← HWB.out]
  refine (implGood_any _ _ _ _ _ _).mono ?_
  rintro e w1 ⟨rfl, x1⟩
  have hx := XB.out.trans x1
  clear c0 c1 c2 c3 c4
  have c0 := (HB.out.ext x1).cell 0 _ rfl
  clear x1
  cases h1 : goodB k i f t a with
  | false =>
    go_wp2
    go_ret
    exact ⟨by rw [h1]; rfl, hx⟩
  | true =>
    cases h2 : (k == 0) with
    | true =>
      have h2' : (k != 0) = false := by simpa using h2
      have H : Hid ((goodB k i f t a && !(k == 0)) = false) := Lib.hid (by rw [h1, h2]; rfl)
      go_wp2
      go_ret
      exact ⟨by rw [H.out]; rfl, hx⟩
    | false =>
      have h2' : (k != 0) = true := by simpa using h2
      have H : Hid ((goodB k i f t a && !(k == 0)) = true) := Lib.hid (by rw [h1, h2]; rfl)
      go_wp2
      go_ret
      exact ⟨by rw [H.out]; rfl, hx⟩

set_option maxHeartbeats 8000000 in
set_option maxRecDepth 100000 in
theorem areAsked_any (n : Int) (v : Value) (K : List AskD) (w : World) (hv : Askz w v K) (hn : isGrp n = true) :
    Calls Tryz.prog 47 #[.int .i64 n, v] w (BoolExt (askB n K) w) := by
  obtain ⟨h3, h5⟩ : 3 ≤ n ∧ n ≤ 5 := by rcases isGrp_of hn with rfl | rfl <;> omega
  obtain ⟨av, cv, rfl, hlv, _, hcv⟩ := hv
  unfold maxLen at hlv
  have HCV := Lib.hid hcv
  have HN := Lib.hid hn
  obtain ⟨b, hb⟩ : ∃ b, b = w.heap.size := ⟨_, rfl⟩
  have hA0 : AskW w (w.alloc (.map #[] 0)) b 0 ((K.take 0).map instOf) := ⟨⟨_, by rw [hb]; exact World.ownsMap_made _ _ _ _, (MapOf.empty (fun _ _ => .bool true)).congr (fun p q => by simp [inA]) (fun _ _ h => by cases h)⟩, Ext.alloc1 _ _⟩
  have HA0 := Lib.hid hA0
  have HBW : Hid (w.heap.size ≤ b) := Lib.hid (by rw [hb]; exact Nat.le_refl _)
  have HBQ := Lib.hid hb
  clear hcv hn hA0 hb
  have hmm := @run_makeMap Tryz.prog
  go_enter Tryz.func47, Tryz.ntmps47
  go_wp2
  rw [← HBQ.out]
  clear hmm
  go_loopw [12] (fun i wr => ∃ k : Nat, k ≤ K.length ∧ i = .int .i64 k ∧ Hid (∀ j, j < k → askAt n K j = true) ∧ Hid (AskW w wr b k ((K.take k).map instOf))) (fun i _ => K.length - (intOf i).toNat)
  case atStart => exact ⟨0, Nat.zero_le _, rfl, Lib.hid (fun j h => by omega), HA0⟩
  case round =>
    clear HA0
    obtain ⟨k, hk, rfl, HT, HP⟩ := hrel
    by_cases hlt : k < K.length
    · obtain ⟨bl, off, rfl, dv⟩ := HCV.out (by omega)
      obtain ⟨d, hd⟩ : ∃ d, d = K[k] := ⟨_, rfl⟩
      have hy := dv k hlt
      rw [← hd] at hy
      obtain ⟨a0, a1, a2, a3, a4, a5, a6⟩ := askIn_cells (hy.ext HP.out.2)
      obtain ⟨w2, hw2⟩ : ∃ w2, w2 = wr.alloc (.cells #[.int .i64 d.rp, .int .i64 d.no, .int .i64 d.k, .int .i64 d.i, .int .i64 d.f, .int .i64 d.t, .int .i64 d.a] 144) := ⟨_, rfl⟩
      obtain ⟨w3, hw3⟩ : ∃ w3, w3 = w2.alloc (.cells #[.int .i64 d.rp, .int .i64 d.no] 130) := ⟨_, rfl⟩
      have x2 : Ext wr w2 := by rw [hw2]; exact Ext.alloc1 _ _
      have x3 : Ext w2 w3 := by rw [hw3]; exact Ext.alloc1 _ _
      have hz2 : w2.heap.size = wr.heap.size + 1 := by rw [hw2]; simp
      have HB : Hid (BoxV w3 wr.heap.size (askVs d)) := Lib.hid (by refine BoxV.ext ?_ x3; rw [hw2]; exact ask_box wr _ d)
      have HI : Hid (BoxV w3 (wr.heap.size + 1) [.int .i64 d.rp, .int .i64 d.no]) := Lib.hid (by rw [← hz2, hw3]; exact boxV_new w2 [.int .i64 d.rp, .int .i64 d.no] _)
      have HAT : Hid (askAt n K k = (ask1 n d && !((K.take k).any (sameAt d)))) := Lib.hid (by rw [hd]; exact askAt_get hlt)
      have HD := Lib.hid hd
      have HLT := Lib.hid hlt
      obtain ⟨⟨D, hm, hmo⟩, hx⟩ := HP.out
      have HM := Lib.hid (hm.ext (x2.trans x3))
      have HMO := Lib.hid hmo
      have X3 := Lib.hid (hx.trans (x2.trans x3))
      have HW3 := Lib.hid (hw3.trans (by rw [hw2]))
      clear dv hy hd hw2 hw3 x2 x3 hz2 hm hmo hx HP
      go_wp2_with fail
      rw [← HW3.out]
      refine (isInstance_any n d.rp d.no _ HN.out).mono ?_
      rintro e w4 ⟨rfl, rfl⟩
      clear a0 a1 a2 a3 a4 a5 a6
      as_aux_lemma =>
        cases hc0 : instB n d.rp d.no with
        | false =>
          have HO : Hid (askB n K = false) := Lib.hid (rangeAll_no HLT.out (by rw [HAT.out]; unfold ask1; rw [hc0]; rfl))
          go_wp2
          go_ret
          exact ⟨by rw [HO.out]; rfl, X3.out⟩
        | true =>
          obtain ⟨p, q, hl, ep, eq⟩ : ∃ p q : Nat, (p < 5 ∧ q < 6) ∧ (p, q) = instOf d ∧ (d.rp = (p : Int) ∧ d.no = (q : Int) + 1) := by
            obtain ⟨h1, h2, h3, h4⟩ := inst_small h5 hc0
            exact ⟨(instOf d).1, (instOf d).2, ⟨h1, h2⟩, rfl, h3, h4⟩
          have hlk := askedAt HM.out HMO.out hl
          rw [ep, mem_inst h5 (Nat.le_of_lt HLT.out) HT.out hc0] at hlk
          have HC0 := Lib.hid hc0
          have HEP := Lib.hid ep
          have HEQ := Lib.hid eq
          have HL := Lib.hid hl
          rw [← eq.1, ← eq.2] at hlk
          clear hc0 ep eq hl
          have i0 := HI.out.cell 0 _ rfl
          have i1 := HI.out.cell 1 _ rfl
          obtain ⟨a0, a1, a2, a3, a4, a5, a6⟩ := ask_cells HB.out
          cases hmet : (K.take k).any (sameAt d) with
          | true =>
            rw [hmet] at hlk
            have HO : Hid (askB n K = false) := Lib.hid (rangeAll_no HLT.out (by rw [HAT.out, hmet]; simp))
            go_wp2
            go_ret
            exact ⟨by rw [HO.out]; rfl, X3.out⟩
          | false =>
            rw [hmet] at hlk
            have HMET := Lib.hid hmet
            clear hmet
            go_wp2_with fail
            refine (canBe_any _ _ _ _ _ _).mono ?_
            rintro e w5 ⟨rfl, x5⟩
            have HI5 := Lib.hid (HI.out.ext x5)
            have HM5 := Lib.hid (HM.out.ext x5)
            have X5 := Lib.hid (X3.out.trans x5)
            clear x5 a0 a1 a2 a3 a4 a5 a6 i0 i1 hlk
            as_aux_lemma =>
              cases hc1 : (goodB d.k d.i d.f d.t d.a && !(d.k == 0)) with
              | false =>
                have HO : Hid (askB n K = false) := Lib.hid (rangeAll_no HLT.out (by rw [HAT.out]; unfold ask1; rw [hc1, Bool.and_false]; rfl))
                go_wp2
                go_ret
                exact ⟨by rw [HO.out]; rfl, X5.out⟩
              | true =>
                have HT1 : Hid (∀ j, j < k + 1 → askAt n K j = true) := Lib.hid (upTo_succ HT.out (by rw [HAT.out]; unfold ask1; rw [HC0.out, hc1, HMET.out]; rfl))
                clear hc1
                have i0 := HI5.out.cell 0 _ rfl
                have i1 := HI5.out.cell 1 _ rfl
                have hwr : wf64 d.rp := by have := HEQ.out.1; have := HL.out; exact wf_small (by omega) (by omega)
                have hwn : wf64 d.no := by have := HEQ.out.2; have := HL.out; exact wf_small (by omega) (by omega)
                go_wp2_with (at_mapUpdate; refine wpList_mapUpdate_own _ rfl _ _ _ 154 rfl 130 4 instKeyed Tryz.underlying154 asIs b k D rfl HM5.out (by unfold maxLen; have := HLT.out; omega) _ _ (kl d.rp d.no) rfl rfl (keyOf_inst hwr hwn) (.held (.bool true)) [] rfl ?_)
                intro w6 hown hgrow
                rw [HEQ.out.1, HEQ.out.2] at hown
                have HN1 : Hid (AskW w w6 b (k + 1) ((K.take (k + 1)).map instOf)) := Lib.hid (by
                  rw [List.take_succ_eq_append_getElem HLT.out, List.map_append, List.map_singleton, ← HD.out, ← HEP.out]
                  exact AskW.step HMO.out X5.out HBW.out HL.out hown hgrow)
                clear hown hgrow i0 i1 hwr hwn
                go_wp2
                go_roundw
                case rel => exact ⟨k + 1, by have := HLT.out; omega, by go_num, HT1, HN1⟩
                case measure => simp [intOf]; have := HLT.out; omega
    · obtain rfl : k = K.length := by omega
      have HO : Hid (askB n K = true) := Lib.hid (rangeAll_yes HT.out)
      have hx := HP.out.2
      go_wp2
      go_ret
      exact ⟨by rw [HO.out]; rfl, hx⟩
end Go.Proofs.YtjkmhphnefpdoaaGreat

namespace Go.Proofs.YtjkmhphnefpdoaaGreat
open Go.RowKit
set_option linter.unusedVariables false

set_option maxHeartbeats 4000000 in
theorem implGoodNet_any (u v z : Value) (R : List RepD) (M : List MsgD) (K : List AskD) (w : World) (hn : NetL w u v z R M K) (hr : bulkRep R ≤ 549755813888) (hm : bulkMes M ≤ 549755813888) :
    Calls Tryz.prog 11 #[.agg #[u, v, z]] w (BoolExt (goodNet R M K) w) := by
  obtain ⟨wb, hwb⟩ : ∃ wb, wb = w.alloc (.cells #[u, v, z] 33) := ⟨_, rfl⟩
  have x0 : Ext w wb := by rw [hwb]; exact Ext.alloc1 _ _
  have HB := Lib.hid (show BoxV wb w.heap.size [u, v, z] by rw [hwb]; exact boxV_new w [u, v, z] 33)
  have HN := Lib.hid (hn.ext x0)
  have HX0 := Lib.hid x0
  have HW := Lib.hid hwb
  have HR := Lib.hid hr
  have HM := Lib.hid hm
  obtain ⟨⟨au, cu, rfl, _, _, _⟩, _, _⟩ := hn
  clear x0 hr hm
  have a0 := HB.out.cell 0 _ rfl
  have a1 := HB.out.cell 1 _ rfl
  have a2 := HB.out.cell 2 _ rfl
  rw [hwb] at a0 a1 a2
  clear hwb
  go_enter Tryz.func11, Tryz.ntmps11
  go_wp2_with fail
  rw [← HW.out]
  refine (implIsGroup_any _ _).mono ?_
  rintro e w1 ⟨rfl, rfl⟩
  clear a0 a1 a2
  cases hg : isGrp R.length with
  | false =>
    have HO : Hid (goodNet R M K = false) := Lib.hid (goodNet_no0 hg)
    go_wp2
    go_ret
    exact ⟨by rw [HO.out]; rfl, HX0.out⟩
  | true =>
    have HG := Lib.hid hg
    clear hg
    have a0 := HB.out.cell 0 _ rfl
    have a1 := HB.out.cell 1 _ rfl
    have a2 := HB.out.cell 2 _ rfl
    go_wp2_with fail
    refine (areReps_any R.length _ R _ HN.out.i1 HR.out).mono ?_
    rintro e w2 ⟨rfl, x2⟩
    have X2 := Lib.hid x2
    clear x2 a0 a1 a2
    cases h1 : repsB R.length R with
    | false =>
      have HO : Hid (goodNet R M K = false) := Lib.hid (goodNet_no1 h1)
      go_wp2
      go_ret
      exact ⟨by rw [HO.out]; rfl, HX0.out.trans X2.out⟩
    | true =>
      have H1 := Lib.hid h1
      clear h1
      have a0 := (HB.out.ext X2.out).cell 0 _ rfl
      have a1 := (HB.out.ext X2.out).cell 1 _ rfl
      have a2 := (HB.out.ext X2.out).cell 2 _ rfl
      go_wp2_with fail
      refine (areMsgs_any R.length _ M _ (HN.out.i2.ext X2.out) HM.out).mono ?_
      rintro e w3 ⟨rfl, x3⟩
      have X3 := Lib.hid (X2.out.trans x3)
      clear x3 a0 a1 a2
      cases h2 : mesB R.length M with
      | false =>
        have HO : Hid (goodNet R M K = false) := Lib.hid (goodNet_no2 h2)
        go_wp2
        go_ret
        exact ⟨by rw [HO.out]; rfl, HX0.out.trans X3.out⟩
      | true =>
        have H2 := Lib.hid h2
        clear h2
        have a0 := (HB.out.ext X3.out).cell 0 _ rfl
        have a1 := (HB.out.ext X3.out).cell 1 _ rfl
        have a2 := (HB.out.ext X3.out).cell 2 _ rfl
        obtain ⟨c, hc⟩ : ∃ c, c = askB R.length K := ⟨_, rfl⟩
        have HO : Hid (goodNet R M K = c) := Lib.hid (by unfold goodNet; rw [HG.out, H1.out, H2.out, hc]; rfl)
        have HC := Lib.hid hc
        clear hc
        go_wp2_with fail
        have hcc := areAsked_any R.length z K _ (HN.out.i3.ext X3.out) HG.out
        rw [← HC.out] at hcc
        refine hcc.mono ?_
        rintro e w4 ⟨rfl, x4⟩
        have X4 := Lib.hid (X3.out.trans x4)
        clear x4 hcc a0 a1 a2
        go_wp2
        go_ret
        exact ⟨by rw [HO.out]; rfl, HX0.out.trans X4.out⟩
end Go.Proofs.YtjkmhphnefpdoaaGreat

namespace Go.Proofs.YtjkmhphnefpdoaaGreat
open Go.RowKit
set_option linter.unusedVariables false

set_option maxHeartbeats 4000000 in
set_option maxRecDepth 100000 in
theorem implBagFor_any (u v z : Value) (R : List RepD) (M : List MsgD) (K : List AskD) (a : Int) (w : World) (hn : NetL w u v z R M K) (hr : bulkRep R ≤ 549755813888) (hm : bulkMes M ≤ 549755813888) :
    Calls Tryz.prog 14 #[.agg #[u, v, z], .int .i64 a] w (TwoInts (bagOf R M K a) (bagB R M K a) w) := by
  obtain ⟨wb, hwb⟩ : ∃ wb, wb = w.alloc (.cells #[u, v, z] 33) := ⟨_, rfl⟩
  have x0 : Ext w wb := by rw [hwb]; exact Ext.alloc1 _ _
  have HB := Lib.hid (show BoxV wb w.heap.size [u, v, z] by rw [hwb]; exact boxV_new w [u, v, z] 33)
  have HN := Lib.hid (hn.ext x0)
  have HX0 := Lib.hid x0
  have HW := Lib.hid hwb
  have HR := Lib.hid hr
  have HM := Lib.hid hm
  have hml : M.length ≤ 549755813888 := by unfold bulkMes at hm; omega
  obtain ⟨⟨au, cu, rfl, hlu, _, _⟩, ⟨av, cv, rfl, _, _, hcv⟩, _⟩ := hn
  unfold maxLen at hlu
  have HCV := Lib.hid hcv
  clear x0 hr hm hcv
  have a0 := HB.out.cell 0 _ rfl
  have a1 := HB.out.cell 1 _ rfl
  have a2 := HB.out.cell 2 _ rfl
  rw [hwb] at a0 a1 a2
  clear hwb
  go_enter Tryz.func14, Tryz.ntmps14
  go_wp2_with fail
  rw [← HW.out]
  refine (implGoodNet_any _ _ _ R M K _ HN.out HR.out HM.out).mono ?_
  rintro e w1 ⟨rfl, x1⟩
  have X1 := Lib.hid x1
  clear a0 a1 a2 x1
  cases hg : goodNet R M K with
  | false =>
    have HO : Hid (bagB R M K a = false) := Lib.hid (by unfold bagB; rw [hg]; rfl)
    clear hg
    go_wp2
    go_ret2
    exact ⟨_, by rw [HO.out]; rfl, by unfold bagOf; rw [HO.out]; exact fresh_nil _ _, HX0.out.trans X1.out⟩
  | true =>
    have HG := Lib.hid hg
    clear hg
    have a0 := (HB.out.ext X1.out).cell 0 _ rfl
    have a1 := (HB.out.ext X1.out).cell 1 _ rfl
    have a2 := (HB.out.ext X1.out).cell 2 _ rfl
    go_wp2_with fail
    refine (isReplica_any _ _ _).mono ?_
    rintro e w2 ⟨rfl, rfl⟩
    have hrp : repB (R.length : Int) a = inB a 0 ((R.length : Int) - 1) := by unfold repB; rw [goodNet_grp HG.out]; rfl
    rw [hrp]
    clear hrp
    cases hi : inB a 0 ((R.length : Int) - 1) with
    | false =>
      have HO : Hid (bagB R M K a = false) := Lib.hid (by unfold bagB; rw [hi, Bool.and_false])
      clear hi
      go_wp2
      go_ret2
      exact ⟨_, by rw [HO.out]; rfl, by unfold bagOf; rw [HO.out]; exact fresh_nil _ _, HX0.out.trans X1.out⟩
    | true =>
      have HO : Hid (bagB R M K a = true) := Lib.hid (by unfold bagB; rw [HG.out, hi]; rfl)
      clear hi
      go_wp2
      clear a0 a1 a2
      have Y1 := Lib.hid (HX0.out.trans X1.out)
      go_loopw [6, 23] (fun q i wr => ∃ k : Nat, k ≤ M.length ∧ i = .int .i64 k ∧ Hid (Fresh w.heap.size wr q (bagTo M a k)) ∧ Hid (Ext w wr)) (fun _ i _ => M.length - (intOf i).toNat)
      case atStart => exact ⟨0, Nat.zero_le _, rfl, Lib.hid (fresh_nil _ _), Y1⟩
      case round =>
        obtain ⟨k, hk, rfl, HF, HY⟩ := hrel
        by_cases hlt : k < M.length
        · obtain ⟨b, off, rfl, dv⟩ := HCV.out (by omega)
          obtain ⟨d, hd⟩ : ∃ d, d = M[k] := ⟨_, rfl⟩
          obtain ⟨y1, hy, iy⟩ := dv k hlt
          rw [← hd] at hy iy
          obtain ⟨b1, c1, rfl, _⟩ := id iy.i1
          obtain ⟨a0, a1, a2, a3, a4, a5, a6, a7, a8, a9, a10, a11, a12, a13, a14⟩ := mesIn_cells (hy.ext HY.out)
          have hat := forB_get (a := a) hlt
          rw [← hd] at hat
          have x3 : Ext wr (wr.alloc (.cells #[.int .i64 d.kd, .int .i64 d.fr, .int .i64 d.tt, .int .i64 d.rp, .int .i64 d.no, .int .i64 d.b, .int .i64 d.v, .int .i64 d.st, .int .i64 d.k, .int .i64 d.i, .int .i64 d.f, .int .i64 d.t, .int .i64 d.a, .int .i64 d.s, .slice b1 d.l.length c1] 80)) := Ext.alloc1 _ _
          have e2 : (wr.alloc (.cells #[.int .i64 d.kd, .int .i64 d.fr, .int .i64 d.tt, .int .i64 d.rp, .int .i64 d.no, .int .i64 d.b, .int .i64 d.v, .int .i64 d.st, .int .i64 d.k, .int .i64 d.i, .int .i64 d.f, .int .i64 d.t, .int .i64 d.a, .int .i64 d.s, .slice b1 d.l.length c1] 80)).cell? ⟨wr.heap.size, 2, none⟩ = some (.int .i64 d.tt) := (boxV_new wr [.int .i64 d.kd, .int .i64 d.fr, .int .i64 d.tt, .int .i64 d.rp, .int .i64 d.no, .int .i64 d.b, .int .i64 d.v, .int .i64 d.st, .int .i64 d.k, .int .i64 d.i, .int .i64 d.f, .int .i64 d.t, .int .i64 d.a, .int .i64 d.s, .slice b1 d.l.length c1] 80).cell 2 _ rfl
          have HLT := Lib.hid hlt
          have X3 := Lib.hid (HY.out.trans x3)
          have HF3 := Lib.hid (HF.out.ext x3)
          have hkl := bagTo_len M a k
          have HKL : Hid ((bagTo M a k).length ≤ 1099511627776) := Lib.hid (by omega)
          clear dv hy iy hd x3 hkl
          by_cases ht : d.tt = a
          · subst ht
            rw [beq_self_eq_true] at hat
            have hnx := bagTo_hit hat
            have HNX := Lib.hid hnx
            have ec := cell_alloc_one (wr.alloc (.cells #[.int .i64 d.kd, .int .i64 d.fr, .int .i64 d.tt, .int .i64 d.rp, .int .i64 d.no, .int .i64 d.b, .int .i64 d.v, .int .i64 d.st, .int .i64 d.k, .int .i64 d.i, .int .i64 d.f, .int .i64 d.t, .int .i64 d.a, .int .i64 d.s, .slice b1 d.l.length c1] 80)) (.int .i64 k) 3
            rw [World.size_alloc] at ec
            have EC := Lib.hid ec
            clear hnx hat ec
            go_wp2_with (at_builtin; refine wpList_push rfl _ _ rfl w.heap.size _ (bagTo M d.tt k) (k : Int) rfl (HF3.out.ext (Ext.alloc (Ext.refl _) _)) ⟨wr.heap.size + 1, 0, none⟩ 1 rfl EC.out HKL.out (size_alloc_le X3.out.size) ?_)
            intro v2 w4 f4 g4 k4
            have HX4 := Lib.hid (k4 w (X3.out.alloc _) (Nat.le_refl _))
            have HF4 : Hid (Fresh w.heap.size w4 v2 (bagTo M d.tt (k + 1))) := Lib.hid (by rw [HNX.out]; exact f4)
            clear f4 g4 k4 a0 a1 a2 a3 a4 a5 a6 a7 a8 a9 a10 a11 a12 a13 a14 e2
            go_wp2
            go_roundw
            case rel => exact ⟨k + 1, by have := HLT.out; omega, by go_num, HF4, HX4⟩
            case measure => simp [intOf]; have := HLT.out; omega
          · have hb : (d.tt == a) = false := by simp [ht]
            rw [hb] at hat
            have HF4 := HF3
            rw [← bagTo_miss hat] at HF4
            clear hat
            go_wp2
            go_roundw
            case rel => exact ⟨k + 1, by have := HLT.out; omega, by go_num, HF4, X3⟩
            case measure => simp [intOf]; have := HLT.out; omega
        · obtain rfl : k = M.length := by omega
          have HA : Hid (bagOf R M K a = bagTo M a M.length) := Lib.hid (by unfold bagOf; rw [HO.out]; rfl)
          go_wp2
          go_ret2
          exact ⟨_, by rw [HO.out]; rfl, by rw [HA.out]; exact HF.out, HY.out⟩
end Go.Proofs.YtjkmhphnefpdoaaGreat

namespace Go.Proofs.YtjkmhphnefpdoaaGreat
open Go.RowKit
set_option linter.unusedVariables false

theorem Tryz.infoRep : ((Tryz.prog.info? 58).map (fun i => (i.zero, i.size))) = some (some (.agg #[.int .i64 0, .int .i64 0, .slice none 0 0, .slice none 0 0]), 4) := by kernel_rfl
theorem rep_parts : ∃ i, Tryz.prog.info? 58 = some i ∧ i.zero = some (.agg #[.int .i64 0, .int .i64 0, .slice none 0 0, .slice none 0 0]) ∧ i.size = 4 := by
  have h := Tryz.infoRep
  cases hi : Tryz.prog.info? 58 with
  | none => rw [hi] at h; cases h
  | some i =>
    rw [hi] at h
    simp only [Option.map_some, Option.some.injEq, Prod.mk.injEq] at h
    exact ⟨i, rfl, h.1, h.2⟩
theorem rep_bytes : ∀ i, Tryz.prog.info? 58 = some i → i.bytes ≤ 256 := by
  intro i hi
  have h : ((Tryz.prog.info? 58).map (fun i => decide (i.bytes ≤ 256))) = some true := by kernel_rfl
  rw [hi] at h
  simpa using h
theorem repz_of {w : World} {g n : Nat} {xs : List Value} {L : List RepD} {cut : Nat → Nat} (hb : BoxV w g xs) (hn : n = L.length) (hm : n ≤ maxLen) (hl : xs.length = L.length * 4) (hk : CutOk (g + 1) n w.heap.size cut) (h : RepsTo cut w xs L n) : RepzM g w.heap.size w (.slice (some ⟨g, 0, none⟩) n n) L := by
  subst hn
  exact ⟨g, xs, cut, Nat.le_refl _, rfl, hm, hb, hl, hk, h⟩

set_option maxHeartbeats 8000000 in
set_option maxRecDepth 100000 in
theorem toRepS_any (u : Value) (L : List RepD) (w : World) (hu : Repz w u L) (hs : bulkRep L ≤ 549755813888) :
    Calls Tryz.prog 41 #[u] w (NewRepS L w) := by
  obtain ⟨au, cu, rfl, hlu, _, hcu⟩ := hu
  unfold maxLen at hlu
  have hL : L.length ≤ 549755813888 := by unfold bulkRep at hs; omega
  obtain ⟨i0, hi, hz0, hz1⟩ := rep_parts
  have hz2 := rep_bytes i0 hi
  have HS := Lib.hid hs
  clear hs
  go_enter Tryz.func41, Tryz.ntmps41
  go_wp2_with (at_make; refine wpList_make_full _ rfl _ _ 29 rfl w.heap.size 58 i0 _ 4 Tryz.underlying29 hi hz0 hz1 _ _ _ _ L.length rfl rfl rfl rfl ?c1 ?c2 ?c3 ?_)
  case c1 =>
    have hmul := Nat.mul_le_mul hL hz2
    first
    | exact Nat.le_trans hmul (by decide)
    | (rw [Nat.mul_comm]; exact Nat.le_trans hmul (by decide))
  case c2 => unfold maxLen; omega
  case c3 => simp
  intro w1 ho1 hg1
  have hx1 : Ext w w1 := ext_of_grown hg1
  have hsz : w.heap.size < w1.heap.size := by
    rcases ho1.2 with ⟨h, _⟩ | ⟨g, cap, cur, h, hb, hg, _⟩
    · cases h
    · simp only [Value.slice.injEq, Option.some.injEq, Addr.mk.injEq, and_true, true_and] at h
      obtain ⟨rfl, _⟩ := h
      exact (Array.getElem?_eq_some_iff.1 hg).1
  obtain ⟨xs0, hxs⟩ : ∃ xs, xs = (madeCells #[.int .i64 0, .int .i64 0, .slice none 0 0, .slice none 0 0] (L.length * 4)).toList := ⟨_, rfl⟩
  rw [← hxs] at ho1
  have hlx : xs0.length = L.length * 4 := ho1.1
  have hbx : BoxV w1 w.heap.size xs0 := ⟨fun j v hj => by
    rw [ho1.cellAt _ (by have := (List.getElem?_eq_some_iff.1 hj).1; omega)]; exact hj, fun j _ => ho1.frozenAt j, hsz⟩
  clear hg1 hz0 hz1 hz2 hi hxs ho1 hsz
  have HBX := Lib.hid hbx
  clear hbx
  go_wp2
  go_loopw [4] (fun i wr => ∃ (k : Nat) (xs : List Value) (cut : Nat → Nat), k ≤ L.length ∧ i = .int .i64 k ∧ Hid (BoxV wr w.heap.size xs) ∧ xs.length = L.length * 4 ∧ Hid (CutOk (w.heap.size + 1) k wr.heap.size cut) ∧ Hid (RepsTo cut wr xs L k) ∧ Ext w wr) (fun i _ => L.length - (intOf i).toNat)
  case atStart => exact ⟨0, xs0, _, Nat.zero_le _, rfl, HBX, hlx, Lib.hid (CutOk.start HBX.out.lt (Nat.le_refl _)), Lib.hid (fun j _ h => by omega), hx1⟩
  case round =>
    clear hx1 HBX hlx
    obtain ⟨k, xs, cut, hk, rfl, hB, hl, hC, hT, hx⟩ := hrel
    by_cases hlt : k < L.length
    · obtain ⟨bu, ou, rfl, du⟩ := hcu (by omega)
      obtain ⟨y1, y2, hy, iy⟩ := du k hlt
      obtain ⟨d, hd⟩ : ∃ d, d = L[k] := ⟨_, rfl⟩
      have hbk : bulk1Rep d ≤ 549755813888 := by rw [hd]; have := bulkRep_at hlt; have := HS.out; omega
      rw [← hd] at hy iy
      have hy := hy.ext hx
      have IY := Lib.hid (iy.ext hx)
      have HD := Lib.hid hd
      obtain ⟨c0, c1, c2, c3⟩ := repIn_cells hy
      clear hcu du hy iy hd
      go_wp2_with fail
      refine (toReplica_new d.me d.n y1 y2 d.T d.L _ IY.out.i1 IY.out.i2 (by unfold bulk1Rep at hbk; omega) (by unfold bulk1Rep at hbk; omega)).mono ?_
      rintro e w2 ⟨z1, z2, rfl, gE, x2⟩
      have f2 : RepE wr.heap.size w2.heap.size w2 d z1 z2 := gE
      clear c0 c1 c2 c3
      have hb2 := hB.out.ext x2
      have HT2 := Lib.hid (hT.out.kept hC.out (Stood.of_ext x2 (Nat.le_refl _)))
      have HC2 := Lib.hid (hC.out.more (Nat.le_refl _) x2.size)
      have HC3 := Lib.hid (hC.out.to x2.size)
      have F2 := Lib.hid (f2.more hC.out.hi (Nat.le_refl _))
      have HB2 := Lib.hid hb2
      obtain ⟨o0, g0⟩ : ∃ v, w2.cell? ⟨w.heap.size, k * 4, none⟩ = some v := ⟨_, hb2.cell (k * 4) _ (List.getElem?_eq_getElem (by omega))⟩
      have n0 := hb2.free (k * 4) (by omega)
      obtain ⟨o1, g1⟩ : ∃ v, w2.cell? ⟨w.heap.size, k * 4 + 1, none⟩ = some v := ⟨_, hb2.cell (k * 4 + 1) _ (List.getElem?_eq_getElem (by omega))⟩
      have n1 := hb2.free (k * 4 + 1) (by omega)
      obtain ⟨o2, g2⟩ : ∃ v, w2.cell? ⟨w.heap.size, k * 4 + 2, none⟩ = some v := ⟨_, hb2.cell (k * 4 + 2) _ (List.getElem?_eq_getElem (by omega))⟩
      have n2 := hb2.free (k * 4 + 2) (by omega)
      obtain ⟨o3, g3⟩ : ∃ v, w2.cell? ⟨w.heap.size, k * 4 + 3, none⟩ = some v := ⟨_, hb2.cell (k * 4 + 3) _ (List.getElem?_eq_getElem (by omega))⟩
      have n3 := hb2.free (k * 4 + 3) (by omega)
      obtain ⟨a1, k1, e1⟩ : ∃ a c, z1 = .slice a d.T.length c := by obtain ⟨_, _, _, h, _⟩ := gE; exact h.form
      obtain ⟨a2, k2, e2⟩ : ∃ a c, z2 = .slice a d.L.length c := by obtain ⟨_, _, _, _, h⟩ := gE; exact h.form
      have hxx := hx.trans x2
      clear f2 gE hC hb2 hx x2 hB hT
      subst e1 e2
      go_wp2
      go_roundw
      case rel =>
        refine ⟨k + 1, putL xs (k * 4) (repVs d (.slice a1 d.T.length k1) (.slice a2 d.L.length k2)), cutTo cut k w2.heap.size, by omega, by go_num, Lib.hid ?_, by rw [putL_len]; exact hl, Lib.hid ?_, Lib.hid ?_, ?_⟩
        · rw [← setCells_rep]
          exact boxV_puts _ _ _ _ HB2.out (by rw [repVs_len]; omega)
        · rw [← setCells_rep]
          exact HC3.out.more (Nat.le_refl _) (ins_puts (lo := w.heap.size) (hi := w.heap.size + 1) (Nat.le_refl _) (Nat.lt_succ_self _) _ _ _).size
        · rw [← setCells_rep]
          have hd := HD.out
          subst hd
          exact HT2.out.put HC2.out hlt hl (Nat.le_refl _) F2.out
        · rw [← setCells_rep]
          exact (ins_puts (lo := w.heap.size) (hi := w.heap.size + 1) (Nat.le_refl _) (Nat.lt_succ_self _) _ _ _).ext hxx (Nat.le_refl _)
      case measure => simp [intOf]; omega
    · obtain rfl : k = L.length := by omega
      go_wp2
      go_ret
      exact ⟨_, rfl, repz_of hB.out rfl (by unfold maxLen; omega) hl hC.out hT.out, hx⟩
end Go.Proofs.YtjkmhphnefpdoaaGreat
