/- Texts of this proof, part q4: words, plain facts, contracts. -/
import Derived.Test.YtbffkidkfannhaaGreatMGoodNetl
import Derived.Test.YtbffkidkfannhaaGreatMGoodNetp2
import Derived.Test.YtbffkidkfannhaaGreatMGoodNetp3
import Derived.Test.YtbffkidkfannhaaGreatMGoodNetp4
import Derived.Test.YtbffkidkfannhaaGreatMGoodNetp5
import Derived.Test.YtbffkidkfannhaaGreatMGoodNetq1
import Derived.Test.YtbffkidkfannhaaGreatMGoodNetq2
import Derived.Test.YtbffkidkfannhaaGreatMGoodNetq3
import Derived.Test.YtbffkidkfannhaaGreatMGoodNetp1
import Derived.Test.YtbffkidkfannhaaGreatMGoodNetn
import Derived.Test.YtbffkidkfannhaaGreatMGoodNeto
import Derived.Test.YtbffkidkfannhaaGreatMGoodNetc
import Derived.Test.YtbffkidkfannhaaGreatMGoodNetm
import Derived.WalkSpells

namespace Go.Proofs.YtbffkidkfannhaaGreat
open Go.RowKit
set_option linter.unusedVariables false

set_option maxHeartbeats 4000000 in
set_option maxRecDepth 100000 in
theorem implGoodMsg_no (n : Int) (r : MsgD) (u : Value) (w : World) (h : inB r.kd 1 7 = false) :
    Calls Tryz.prog 70 #[.int .i64 n, .agg #[.int .i64 r.kd, .int .i64 r.fr, .int .i64 r.tt, .int .i64 r.rp, .int .i64 r.no, .int .i64 r.b, .int .i64 r.v, .int .i64 r.st, .int .i64 r.k, .int .i64 r.i, .int .i64 r.f, .int .i64 r.t, .int .i64 r.a, .int .i64 r.s, u]] w (BoolExt false w) := by
  have HH := Lib.hid h
  have xb := Ext.alloc1 w (.cells #[.int .i64 r.kd, .int .i64 r.fr, .int .i64 r.tt, .int .i64 r.rp, .int .i64 r.no, .int .i64 r.b, .int .i64 r.v, .int .i64 r.st, .int .i64 r.k, .int .i64 r.i, .int .i64 r.f, .int .i64 r.t, .int .i64 r.a, .int .i64 r.s, u] 77)
  clear h
  go_enter Tryz.func70, Tryz.ntmps70
  go_wp2_with fail
  refine (contentOf_no r _ _ HH.out).mono ?_
  rintro e w1 ⟨rfl, x1⟩
  have hx := xb.trans x1
  clear x1 xb
  go_wp2
  go_ret
  exact ⟨rfl, hx⟩

theorem implGoodMsg_any (n : Int) (r : MsgD) (u : Value) (w : World) (hv : Ints w u r.l) (hs : r.l.length ≤ 1099511627776) :
    Calls Tryz.prog 70 #[.int .i64 n, .agg #[.int .i64 r.kd, .int .i64 r.fr, .int .i64 r.tt, .int .i64 r.rp, .int .i64 r.no, .int .i64 r.b, .int .i64 r.v, .int .i64 r.st, .int .i64 r.k, .int .i64 r.i, .int .i64 r.f, .int .i64 r.t, .int .i64 r.a, .int .i64 r.s, u]] w (BoolExt (goodM n r) w) := by
  unfold goodM
  cases hk : inB r.kd 1 7 with
  | false => rw [Bool.false_and]; exact implGoodMsg_no n r u w hk
  | true =>
    rw [Bool.true_and]
    have hk2 : 1 ≤ r.kd ∧ r.kd ≤ 7 := by unfold inB at hk; simpa using hk
    have hc : r.kd = 1 ∨ r.kd = 2 ∨ r.kd = 3 ∨ r.kd = 4 ∨ r.kd = 5 ∨ r.kd = 6 ∨ r.kd = 7 := by omega
    rcases hc with h | h | h | h | h | h | h
    · exact implGoodMsg_1 n r u w hv hs h
    · exact implGoodMsg_2 n r u w hv hs h
    · exact implGoodMsg_3 n r u w hv hs h
    · exact implGoodMsg_4 n r u w hv hs h
    · exact implGoodMsg_5 n r u w hv hs h
    · exact implGoodMsg_6 n r u w hv hs h
    · exact implGoodMsg_7 n r u w hv hs h

theorem specGoodMsg_any (n : Int) (r : MsgD) (u : Value) (w : World) (hv : Ints w u r.l) :
    Calls Tryz.prog 36 #[.int .i64 n, .agg #[.int .i64 r.kd, .int .i64 r.fr, .int .i64 r.tt, .int .i64 r.rp, .int .i64 r.no, .int .i64 r.b, .int .i64 r.v, .int .i64 r.st, .int .i64 r.k, .int .i64 r.i, .int .i64 r.f, .int .i64 r.t, .int .i64 r.a, .int .i64 r.s, u]] w (BoolExt (goodM n r) w) := by
  rw [← goodGm_eq]
  unfold goodGm
  cases hh : headG n r with
  | false => rw [Bool.false_and]; exact specGoodMsg_head n r u w hh
  | true =>
    rw [Bool.true_and]
    by_cases k7 : r.kd = 7
    · rw [if_pos k7]
      exact specGoodMsg_row n r u w hv hh k7
    · rw [if_neg k7]
      have e7 : (r.kd == 7) = false := by simpa using k7
      unfold bodyG
      cases ev : (r.v == 0) with
      | false =>
        have e := specGoodMsg_v n r u w hv hh e7 (by simpa using ev)
        simpa using e
      | true =>
        have ev' : (r.v != 0) = false := by simpa using ev
        cases es : (r.st == 0) with
        | false =>
          have e := specGoodMsg_st n r u w hv hh e7 ev' (by simpa using es)
          simpa using e
        | true =>
          have es' : (r.st != 0) = false := by simpa using es
          cases hd : goodD n r.s r.l with
          | false =>
            have e := specGoodMsg_d n r u w hv hh e7 ev' es' hd
            simpa using e
          | true =>
            cases hc : goodB r.k r.i r.f r.t r.a with
            | false =>
              have e := specGoodMsg_c n r u w hv hh e7 ev' es' hd hc
              simpa using e
            | true =>
              simp only [Bool.true_and]
              by_cases k5 : r.kd = 5
              · have e5 : (r.kd == 5) = true := by simpa using k5
                have e2 : (r.kd == 2) = false := by simp; omega
                have e4 : (r.kd == 4) = false := by simp; omega
                have e6 : (r.kd == 6) = false := by simp; omega
                have el : lastG n r = true := by unfold lastG; rw [if_neg (by omega), if_neg (by omega)]
                rw [e5, el]
                cases eb : (r.b == 0) with
                | false => exact specGoodMsg_5no n r u w hv hh e7 ev' es' hd hc e5 (by simpa using eb)
                | true => exact specGoodMsg_5 n r u w hv hh e7 ev' es' hd hc e5 (by simpa using eb) e2 e4 e6
              · have e5 : (r.kd == 5) = false := by simpa using k5
                rw [e5]
                simp only [Bool.false_and, Bool.not_false, Bool.true_and]
                by_cases k2 : r.kd = 2
                · have el : lastG n r = zeroC r.k r.i r.f r.t r.a := by unfold lastG; rw [if_pos k2]
                  rw [el]
                  exact specGoodMsg_2 n r u w hv hh e7 ev' es' hd hc e5 (by simpa using k2)
                · have e2 : (r.kd == 2) = false := by simpa using k2
                  by_cases k4 : r.kd = 4
                  · have el : lastG n r = (zeroC r.k r.i r.f r.t r.a && sameA r.s 0 r.l (noneL n)) := by unfold lastG; rw [if_neg k2, if_pos (.inl k4)]
                    rw [el]
                    exact specGoodMsg_4 n r u w hv hh e7 ev' es' hd hc e5 e2 (by simpa using k4)
                  · have e4 : (r.kd == 4) = false := by simpa using k4
                    by_cases k6 : r.kd = 6
                    · have el : lastG n r = (zeroC r.k r.i r.f r.t r.a && sameA r.s 0 r.l (noneL n)) := by unfold lastG; rw [if_neg k2, if_pos (.inr k6)]
                      rw [el]
                      exact specGoodMsg_6 n r u w hv hh e7 ev' es' hd hc e5 e2 e4 (by simpa using k6)
                    · have e6 : (r.kd == 6) = false := by simpa using k6
                      have el : lastG n r = true := by unfold lastG; rw [if_neg k2, if_neg (by omega)]
                      rw [el]
                      exact specGoodMsg_13 n r u w hv hh e7 ev' es' hd hc e5 e2 e4 e6
end Go.Proofs.YtbffkidkfannhaaGreat

namespace Go.Proofs.YtbffkidkfannhaaGreat
open Go.RowKit
set_option linter.unusedVariables false

theorem goodNet_no0 {R : List RepD} {M : List MsgD} {K : List AskD} (h : isGrp R.length = false) : goodNet R M K = false := by unfold goodNet; rw [h]; rfl
theorem goodNet_no1 {R : List RepD} {M : List MsgD} {K : List AskD} (h : repsB R.length R = false) : goodNet R M K = false := by unfold goodNet; rw [h]; simp
theorem goodNet_no2 {R : List RepD} {M : List MsgD} {K : List AskD} (h : mesB R.length M = false) : goodNet R M K = false := by unfold goodNet; rw [h]; simp
theorem goodNet_no3 {R : List RepD} {M : List MsgD} {K : List AskD} (h : askB R.length K = false) : goodNet R M K = false := by unfold goodNet; rw [h]; simp
theorem goodNet_yes {R : List RepD} {M : List MsgD} {K : List AskD} (h0 : isGrp R.length = true) (h1 : repsB R.length R = true) (h2 : mesB R.length M = true) (h3 : askB R.length K = true) : goodNet R M K = true := by unfold goodNet; rw [h0, h1, h2, h3]; rfl
theorem mesB_long {n : Int} {M : List MsgD} (h : 80 < M.length) : mesB n M = false := by unfold mesB; rw [decide_eq_false (by omega)]; rfl
theorem mesB_no {n : Int} {M : List MsgD} {k : Nat} (h : k < M.length) (hk : mesAtB n M k = false) : mesB n M = false := by unfold mesB; rw [rangeAll_no h hk, Bool.and_false]
theorem mesB_yes {n : Int} {M : List MsgD} (h : M.length ≤ 80) (hk : ∀ j, j < M.length → mesAtB n M j = true) : mesB n M = true := by unfold mesB; rw [rangeAll_yes hk, decide_eq_true h]; rfl

set_option maxHeartbeats 8000000 in
set_option maxRecDepth 100000 in
theorem specGoodNet_any (u v z : Value) (R : List RepD) (M : List MsgD) (K : List AskD) (w : World) (hn : NetL w u v z R M K) :
    Calls Tryz.prog 13 #[.agg #[u, v, z]] w (BoolExt (goodNet R M K) w) := by
  obtain ⟨wb, hwb⟩ : ∃ wb, wb = w.alloc (.cells #[u, v, z] 35) := ⟨_, rfl⟩
  have x0 : Ext w wb := by rw [hwb]; exact Ext.alloc1 _ _
  have HB := Lib.hid (show BoxV wb w.heap.size [u, v, z] by rw [hwb]; exact boxV_new w [u, v, z] 35)
  have HN := Lib.hid (hn.ext x0)
  have HX0 := Lib.hid x0
  have HW := Lib.hid hwb
  obtain ⟨⟨au, cu, rfl, hlu, _, hcu⟩, ⟨av, cv, rfl, hlv, _, hcv⟩, h3⟩ := hn
  unfold maxLen at hlu hlv
  have HCU := Lib.hid hcu
  have HCV := Lib.hid hcv
  clear x0 hcu hcv h3
  have a0 := HB.out.cell 0 _ rfl
  have a1 := HB.out.cell 1 _ rfl
  have a2 := HB.out.cell 2 _ rfl
  rw [hwb] at a0 a1 a2
  clear hwb
  go_enter Tryz.func13, Tryz.ntmps13
  go_wp2_with fail
  rw [← HW.out]
  refine (specIsGroup_any _ _).mono ?_
  rintro e w1 ⟨rfl, rfl⟩
  clear a0 a1 a2
  have a0 := HB.out.cell 0 _ rfl
  have a1 := HB.out.cell 1 _ rfl
  have a2 := HB.out.cell 2 _ rfl
  cases hg : isGrp R.length with
  | false =>
    have HO : Hid (goodNet R M K = false) := Lib.hid (goodNet_no0 hg)
    go_wp2
    go_ret
    exact ⟨by rw [HO.out]; rfl, HX0.out⟩
  | true =>
    have HG := Lib.hid hg
    clear hg
    by_cases hm : (80 : Int) < (M.length : Int)
    · have HO : Hid (goodNet R M K = false) := Lib.hid (goodNet_no2 (mesB_long (by omega)))
      go_wp2
      go_ret
      exact ⟨by rw [HO.out]; rfl, HX0.out⟩
    · have HM : Hid (M.length ≤ 80) := Lib.hid (by omega)
      go_wp2_with fail
      refine (l9Asked_any R.length z K _ HN.out.i3 HG.out).mono ?_
      rintro e w2 ⟨rfl, x2⟩
      have X2 := Lib.hid x2
      clear x2 a0 a1 a2
      as_aux_lemma =>
        cases hk : askB R.length K with
        | false =>
          have HO : Hid (goodNet R M K = false) := Lib.hid (goodNet_no3 hk)
          go_wp2
          go_ret
          exact ⟨by rw [HO.out]; rfl, HX0.out.trans X2.out⟩
        | true =>
          have HK := Lib.hid hk
          clear hk
          have a0 := (HB.out.ext X2.out).cell 0 _ rfl
          have a1 := (HB.out.ext X2.out).cell 1 _ rfl
          have a2 := (HB.out.ext X2.out).cell 2 _ rfl
          go_wp2
          clear a0 a1 a2 hm
          as_aux_lemma =>
            go_loopw [30] (fun i wr => ∃ k : Nat, k ≤ R.length ∧ i = .int .i64 k ∧ Hid (∀ j, j < k → repAtB R.length R j = true) ∧ Hid (Ext wb wr)) (fun i _ => R.length - (intOf i).toNat)
            case atStart => exact ⟨0, Nat.zero_le _, rfl, Lib.hid (fun j h => by omega), X2⟩
            case round =>
              obtain ⟨k, hk, rfl, HT, HX⟩ := hrel
              by_cases hlt : k < R.length
              · obtain ⟨b, off, rfl, dv⟩ := HCU.out (by omega)
                obtain ⟨d, hd⟩ : ∃ d, d = R[k] := ⟨_, rfl⟩
                obtain ⟨y1, y2, hy, iy⟩ := dv k hlt
                rw [← hd] at hy iy
                obtain ⟨b1, c1, rfl, _⟩ := id iy.i1
                obtain ⟨b2, c2, rfl, _⟩ := id iy.i2
                obtain ⟨a0, a1, a2, a3⟩ := repIn_cells (hy.ext (HX0.out.trans HX.out))
                obtain ⟨w3, hw3⟩ : ∃ w3, w3 = wr.alloc (.cells #[.int .i64 d.me, .int .i64 d.n, .slice b1 d.T.length c1, .slice b2 d.L.length c2] 70) := ⟨_, rfl⟩
                have x3 : Ext wr w3 := by rw [hw3]; exact Ext.alloc1 _ _
                have HBX : Hid (BoxV w3 wr.heap.size (repVs d (.slice b1 d.T.length c1) (.slice b2 d.L.length c2))) := Lib.hid (by rw [hw3]; exact rep_box wr _ d _ _)
                have IY := Lib.hid (((iy.ext (HX0.out.trans HX.out))).ext x3)
                have HAT : Hid (repAtB R.length R k = (goodRep d.me d.n d.T d.L && (d.me == (k : Int) && d.n == (R.length : Int)))) := Lib.hid (by rw [hd]; exact repAtB_get hlt)
                have HLT := Lib.hid hlt
                have X3 := Lib.hid (HX.out.trans x3)
                have HW3 := Lib.hid hw3
                clear dv hy iy hd hw3 x3
                go_wp2_with fail
                rw [← HW3.out]
                refine (specGoodRep_any d.me d.n _ _ d.T d.L _ IY.out.i1 IY.out.i2).mono ?_
                rintro e w4 ⟨rfl, x4⟩
                have HB4 := Lib.hid (HBX.out.ext x4)
                have X4 := Lib.hid (X3.out.trans x4)
                clear x4 a0 a1 a2 a3 HBX X3 IY HW3
                as_aux_lemma =>
                  cases h1 : goodRep d.me d.n d.T d.L with
                  | false =>
                    have HO : Hid (goodNet R M K = false) := Lib.hid (goodNet_no1 (rangeAll_no HLT.out (by rw [HAT.out, h1]; rfl)))
                    go_wp2
                    go_ret
                    exact ⟨by rw [HO.out]; rfl, HX0.out.trans X4.out⟩
                  | true =>
                    have H1 := Lib.hid h1
                    clear h1
                    obtain ⟨a0, a1, a2, a3⟩ := rep_cells HB4.out
                    cases h2 : (d.me == (k : Int)) with
                    | false =>
                      have h2' : (d.me != (k : Int)) = true := by simpa using h2
                      have HO : Hid (goodNet R M K = false) := Lib.hid (goodNet_no1 (rangeAll_no HLT.out (by rw [HAT.out, h2]; simp)))
                      go_wp2
                      go_ret
                      exact ⟨by rw [HO.out]; rfl, HX0.out.trans X4.out⟩
                    | true =>
                      have h2' : (d.me != (k : Int)) = false := by simpa using h2
                      cases h3 : (d.n == (R.length : Int)) with
                      | false =>
                        have h3' : (d.n != (R.length : Int)) = true := by simpa using h3
                        have HO : Hid (goodNet R M K = false) := Lib.hid (goodNet_no1 (rangeAll_no HLT.out (by rw [HAT.out, h3]; simp)))
                        go_wp2
                        go_ret
                        exact ⟨by rw [HO.out]; rfl, HX0.out.trans X4.out⟩
                      | true =>
                        have h3' : (d.n != (R.length : Int)) = false := by simpa using h3
                        have HT1 : Hid (∀ j, j < k + 1 → repAtB R.length R j = true) := Lib.hid (upTo_succ HT.out (by rw [HAT.out, H1.out, h2, h3]; rfl))
                        clear h2 h3
                        go_wp2
                        go_roundw
                        case rel => exact ⟨k + 1, by have := HLT.out; omega, by go_num, HT1, X4⟩
                        case measure => simp [intOf]; have := HLT.out; omega
              · obtain rfl : k = R.length := by omega
                have HRB : Hid (repsB R.length R = true) := Lib.hid (rangeAll_yes HT.out)
                have a0 := (HB.out.ext HX.out).cell 0 _ rfl
                have a1 := (HB.out.ext HX.out).cell 1 _ rfl
                have a2 := (HB.out.ext HX.out).cell 2 _ rfl
                obtain ⟨wo, hwo⟩ : ∃ wo : World, wo = wr := ⟨_, rfl⟩
                subst hwo
                go_wp2
                clear a0 a1 a2
                as_aux_lemma =>
                  go_loopw [55] (fun i wr => ∃ k : Nat, k ≤ M.length ∧ i = .int .i64 k ∧ Hid (∀ j, j < k → mesAtB R.length M j = true) ∧ Hid (Ext wb wr)) (fun i _ => M.length - (intOf i).toNat)
                  case atStart => exact ⟨0, Nat.zero_le _, rfl, Lib.hid (fun j h => by omega), HX⟩
                  case round =>
                    obtain ⟨k, hk, rfl, HT, HY⟩ := hrel
                    by_cases hlt : k < M.length
                    · obtain ⟨b, off, rfl, dv⟩ := HCV.out (by omega)
                      obtain ⟨d, hd⟩ : ∃ d, d = M[k] := ⟨_, rfl⟩
                      obtain ⟨y1, hy, iy⟩ := dv k hlt
                      rw [← hd] at hy iy
                      obtain ⟨b1, c1, rfl, _⟩ := id iy.i1
                      obtain ⟨a0, a1, a2, a3, a4, a5, a6, a7, a8, a9, a10, a11, a12, a13, a14⟩ := mesIn_cells (hy.ext (HX0.out.trans HY.out))
                      obtain ⟨w3, hw3⟩ : ∃ w3, w3 = wr.alloc (.cells #[.int .i64 d.kd, .int .i64 d.fr, .int .i64 d.tt, .int .i64 d.rp, .int .i64 d.no, .int .i64 d.b, .int .i64 d.v, .int .i64 d.st, .int .i64 d.k, .int .i64 d.i, .int .i64 d.f, .int .i64 d.t, .int .i64 d.a, .int .i64 d.s, .slice b1 d.l.length c1] 77) := ⟨_, rfl⟩
                      have x3 : Ext wr w3 := by rw [hw3]; exact Ext.alloc1 _ _
                      have IY := Lib.hid ((iy.ext (HX0.out.trans HY.out)).ext x3)
                      obtain ⟨c, hc⟩ : ∃ c, c = goodM R.length d := ⟨_, rfl⟩
                      have HAT : Hid (mesAtB R.length M k = c) := Lib.hid (by rw [hc, hd]; exact mesAtB_get hlt)
                      have HC := Lib.hid hc
                      have HLT := Lib.hid hlt
                      have X3 := Lib.hid (HY.out.trans x3)
                      have HW3 := Lib.hid hw3
                      clear dv hy iy hd hw3 x3 hc
                      go_wp2_with fail
                      rw [← HW3.out]
                      have hcc := specGoodMsg_any R.length d _ _ IY.out.i1
                      rw [← HC.out] at hcc
                      refine hcc.mono ?_
                      rintro e w4 ⟨rfl, x4⟩
                      have X4 := Lib.hid (X3.out.trans x4)
                      clear x4 hcc a0 a1 a2 a3 a4 a5 a6 a7 a8 a9 a10 a11 a12 a13 a14 X3 IY HW3
                      cases c with
                      | false =>
                        have HO : Hid (goodNet R M K = false) := Lib.hid (goodNet_no2 (mesB_no HLT.out HAT.out))
                        go_wp2
                        go_ret
                        exact ⟨by rw [HO.out]; rfl, HX0.out.trans X4.out⟩
                      | true =>
                        have HT1 : Hid (∀ j, j < k + 1 → mesAtB R.length M j = true) := Lib.hid (upTo_succ HT.out HAT.out)
                        go_wp2
                        go_roundw
                        case rel => exact ⟨k + 1, by have := HLT.out; omega, by go_num, HT1, X4⟩
                        case measure => simp [intOf]; have := HLT.out; omega
                    · obtain rfl : k = M.length := by omega
                      have HO : Hid (goodNet R M K = true) := Lib.hid (goodNet_yes HG.out HRB.out (mesB_yes HM.out HT.out) HK.out)
                      go_wp2
                      go_ret
                      exact ⟨by rw [HO.out]; rfl, HX0.out.trans HY.out⟩
end Go.Proofs.YtbffkidkfannhaaGreat

namespace Go.Proofs.YtbffkidkfannhaaGreat
open Go.RowKit
set_option linter.unusedVariables false

set_option maxHeartbeats 2000000 in
theorem areGoodRows_any (n : Int) (u : Value) (R : List RowD) (w : World) (hu : Rowz w u R) (hs : bulkR R ≤ 1099511627776) (hg : isGrp n = true) :
    Calls Tryz.prog 115 #[.int .i64 n, u] w (BoolExt (goodList n R) w) := by
  obtain ⟨au, cu, rfl, hlu, _, hcu⟩ := hu
  unfold maxLen at hlu
  have HG := Lib.hid hg
  have HS := Lib.hid hs
  clear hg hs
  by_cases h6 : 6 < R.length
  · rw [goodList_long h6]
    clear hcu
    go_enter Tryz.func115, Tryz.ntmps115
    go_wp2
    go_ret
    exact ⟨rfl, Ext.refl _⟩
  · have h6' : R.length ≤ 6 := by omega
    rw [goodList_all h6']
    clear h6
    go_enter Tryz.func115, Tryz.ntmps115
    go_wp2
    go_loopw [12] (fun i wr => ∃ j : Nat, j ≤ R.length ∧ i = .int .i64 j ∧ Hid ((R.take j).all (goodRow n) = true) ∧ Ext w wr) (fun i _ => R.length - (intOf i).toNat)
    case atStart => exact ⟨0, Nat.zero_le _, rfl, Lib.hid (by simp), Ext.refl _⟩
    case round =>
      obtain ⟨j, hj, rfl, HT, hy⟩ := hrel
      by_cases hjt : j < R.length
      · obtain ⟨bx, ox, rfl, dx⟩ := hcu (by omega)
        obtain ⟨y, hy1, iy⟩ := dx j hjt
        obtain ⟨d, hd⟩ : ∃ d, d = R[j] := ⟨_, rfl⟩
        rw [← hd] at hy1 iy
        have hsz : d.l.length ≤ 1099511627776 := by rw [hd]; have := bulkR_row hjt; have := HS.out; omega
        have gy := hy1.ext hy
        have iy2 := iy.ext hy
        obtain ⟨ay, cy, rfl, _⟩ := id iy2
        have IY := Lib.hid iy2
        have HD := Lib.hid hd
        clear hcu dx hy1 iy iy2 hd
        obtain ⟨wp, hwp⟩ : ∃ wp : World, wp = wr := ⟨_, rfl⟩
        subst hwp
        obtain ⟨g0, g1, g2, g3, g4, g5, g6, g7, g8, g9⟩ := gy
        go_wp2_with fail
        cases hq : goodRow n d with
        | false =>
          have HQ := Lib.hid hq
          clear hq
          refine (isGoodRow_any n d _ _ (IY.out.ext (Ext.alloc1 _ _)) hsz HG.out).mono ?_
          rintro e w3 ⟨rfl, x3⟩
          have hz := (hy.trans (Ext.alloc1 _ _)).trans x3
          clear x3 g0 g1 g2 g3 g4 g5 g6 g7 g8 g9
          rw [HQ.out]
          go_wp2
          go_ret
          refine ⟨?_, hz⟩
          have h1 : R.all (goodRow n) = false := allx_false_at hjt _ (by rw [← HD.out]; exact HQ.out)
          rw [h1]; rfl
        | true =>
          have HQ := Lib.hid hq
          clear hq
          refine (isGoodRow_any n d _ _ (IY.out.ext (Ext.alloc1 _ _)) hsz HG.out).mono ?_
          rintro e w3 ⟨rfl, x3⟩
          have hz := (hy.trans (Ext.alloc1 _ _)).trans x3
          clear x3 g0 g1 g2 g3 g4 g5 g6 g7 g8 g9
          rw [HQ.out]
          go_wp2
          go_roundw
          case rel => exact ⟨j + 1, by omega, by go_num, Lib.hid (allx_take_succ hjt _ HT.out (by rw [← HD.out]; exact HQ.out)), hz⟩
          case measure => simp [intOf]; omega
      · obtain rfl : j = R.length := by omega
        go_wp2
        go_ret
        refine ⟨?_, hy⟩
        have hfull : R.all (goodRow n) = true := by have h := HT.out; rwa [List.take_length] at h
        rw [hfull]; rfl

set_option maxHeartbeats 4000000 in
theorem implGoodTable_any (n : Int) (u : Value) (T : List (List RowD)) (w : World) (hu : Rowzz w u T) (hs : bulkT T ≤ 1099511627776) :
    Calls Tryz.prog 94 #[.agg #[.int .i64 n, u]] w (BoolExt (goodTab n T) w) := by
  obtain ⟨au, cu, rfl, hlu, _, hcu⟩ := hu
  unfold maxLen at hlu
  have HSZ := Lib.hid hs
  clear hs
  cases hg : isGrp n with
  | false =>
    rw [goodTab_grp hg]
    have HG := Lib.hid hg
    clear hg hcu
    go_enter Tryz.func94, Tryz.ntmps94
    go_wp2_with fail
    refine (implIsGroup_any _ _).mono ?_
    rintro e w' ⟨rfl, rfl⟩
    rw [HG.out]
    go_wp2
    go_ret
    exact ⟨rfl, Ext.alloc1 _ _⟩
  | true =>
    have HG := Lib.hid hg
    by_cases hl : (T.length : Int) = n
    · rw [goodTab_all hg hl]
      have e0 : ((T.length : Int) != n) = false := by simp [hl]
      have HL := Lib.hid hl
      obtain ⟨wb, hwb⟩ : ∃ wb, wb = w.alloc (.cells #[.int .i64 n, .slice au T.length cu] 67) := ⟨_, rfl⟩
      have hb := attrAt_new w 67 n (.slice au T.length cu)
      rw [← hwb] at hb
      have xb : Ext w wb := by rw [hwb]; exact Ext.alloc1 _ _
      have HWB := Lib.hid hwb
      have HBB := Lib.hid hb
      clear hg hl hwb hb
      go_enter Tryz.func94, Tryz.ntmps94
      go_wp2_with fail
      refine (implIsGroup_any _ _).mono ?_
      rintro e w' ⟨rfl, rfl⟩
      rw [HG.out]
      go_wp2
      rw [← HWB.out]
      go_loopw [20] (fun i wr => ∃ k : Nat, k ≤ T.length ∧ i = .int .i64 k ∧ Hid ((T.take k).all (goodList n) = true) ∧ Ext wb wr) (fun i _ => T.length - (intOf i).toNat)
      case atStart => exact ⟨0, Nat.zero_le _, rfl, Lib.hid (by simp), Ext.refl _⟩
      case round =>
        obtain ⟨k, hk, rfl, HT, hx⟩ := hrel
        by_cases hlt : k < T.length
        · obtain ⟨bu, ou, rfl, du⟩ := hcu (by omega)
          obtain ⟨x, hx1, ix⟩ := du k hlt
          have gu := (xb.trans hx).cell hx1
          have gn := hx.cell HBB.out.1
          obtain ⟨R, hR⟩ : ∃ R, R = T[k] := ⟨_, rfl⟩
          rw [← hR] at ix
          have hsz : bulkR R ≤ 1099511627776 := by rw [hR]; have := bulkT_row hlt; have := HSZ.out; omega
          have IX := Lib.hid (ix.ext (xb.trans hx))
          have HR := Lib.hid hR
          clear hcu du hx1 ix hR
          obtain ⟨wo, hwo⟩ : ∃ wo : World, wo = wr := ⟨_, rfl⟩
          subst hwo
          go_wp2_with fail
          cases hq : goodList n R with
          | false =>
            have HQ := Lib.hid hq
            clear hq
            refine (areGoodRows_any n _ R _ IX.out hsz HG.out).mono ?_
            rintro e w3 ⟨rfl, x3⟩
            have hz := xb.trans (hx.trans x3)
            clear x3 gn gu
            rw [HQ.out]
            go_wp2
            go_ret
            refine ⟨?_, hz⟩
            have h2 : T.all (goodList n) = false := allx_false_at hlt _ (by rw [← HR.out]; exact HQ.out)
            rw [h2]; rfl
          | true =>
            have HQ := Lib.hid hq
            clear hq
            refine (areGoodRows_any n _ R _ IX.out hsz HG.out).mono ?_
            rintro e w3 ⟨rfl, x3⟩
            have hz := hx.trans x3
            clear x3 gn gu
            rw [HQ.out]
            go_wp2
            go_roundw
            case rel => exact ⟨k + 1, by omega, by go_num, Lib.hid (allx_take_succ hlt _ HT.out (by rw [← HR.out]; exact HQ.out)), hz⟩
            case measure => simp [intOf]; omega
        · obtain rfl : k = T.length := by omega
          go_wp2
          go_ret
          refine ⟨?_, xb.trans hx⟩
          have h2 : T.all (goodList n) = true := by have h := HT.out; rwa [List.take_length] at h
          rw [h2]; rfl
    · rw [goodTab_len hl]
      have e0 : ((T.length : Int) != n) = true := by simp [hl]
      clear hg hcu hl
      go_enter Tryz.func94, Tryz.ntmps94
      go_wp2_with fail
      refine (implIsGroup_any _ _).mono ?_
      rintro e w' ⟨rfl, rfl⟩
      rw [HG.out]
      go_wp2
      go_ret
      exact ⟨rfl, Ext.alloc1 _ _⟩

end Go.Proofs.YtbffkidkfannhaaGreat

namespace Go.Proofs.YtbffkidkfannhaaGreat
open Go.RowKit
set_option linter.unusedVariables false

/-- The number ahead of place k, -1 ahead of the first. -/
def lastI (l : List Int) (k : Nat) : Int := match k with | 0 => -1 | j + 1 => l[j]?.getD 0
theorem rise_low {l : List Int} {k : Nat} {hi : Int} (hk : k < l.length) (h : l[k]?.getD 0 ≤ lastI l k) : riseB l 0 hi = false := by
  rw [List.getElem?_eq_getElem hk, Option.getD_some] at h
  cases k with
  | zero =>
    refine riseB_out hk ?_
    have h : l[0] ≤ -1 := h
    cases hq : inB l[0] 0 hi with
    | false => rfl
    | true => have := hq; unfold inB at this; simp at this; omega
  | succ j =>
    have h : l[j + 1] ≤ l[j]?.getD 0 := h
    rw [List.getElem?_eq_getElem (show j < l.length by omega), Option.getD_some] at h
    exact riseB_not hk (by omega)
theorem rise_more {l : List Int} {k : Nat} {hi : Int} (hk : k < l.length) (h : ¬ l[k]?.getD 0 ≤ lastI l k) (hr : Rises (l.take k)) : Rises (l.take (k + 1)) := by
  rw [List.getElem?_eq_getElem hk, Option.getD_some] at h
  refine rises_take_succ hk hr (fun h0 => ?_)
  cases k with
  | zero => omega
  | succ j =>
    have h : ¬ l[j + 1] ≤ l[j]?.getD 0 := h
    rw [List.getElem?_eq_getElem (show j < l.length by omega), Option.getD_some] at h
    show l[j + 1 - 1] < l[j + 1]
    have e : j + 1 - 1 = j := rfl
    simp only [e]
    omega

set_option maxHeartbeats 2000000 in
theorem areRisers_any (n : Int) (v : Value) (l : List Int) (w : World) (hv : Ints w v l) (hn : isGrp n = true) :
    Calls Tryz.prog 28 #[.int .i64 n, v] w (BoolExt (riseB l 0 (n - 1)) w) := by
  have HV := Lib.hid hv
  obtain ⟨av, cv, rfl, hlv, _, hcv⟩ := hv
  unfold maxLen at hlv
  have HN := Lib.hid hn
  have HCV := Lib.hid hcv
  clear hcv hn
  go_enter Tryz.func28, Tryz.ntmps28
  go_wp2
  go_loopw [5, 10] (fun s i wr => ∃ k : Nat, k ≤ l.length ∧ i = .int .i64 k ∧ s = .int .i64 (lastI l k) ∧ Hid (Rises (l.take k) ∧ (l.take k).all (fun x => inB x 0 (n - 1)) = true) ∧ wr = w) (fun _ i _ => l.length - (intOf i).toNat)
  case atStart => exact ⟨0, Nat.zero_le _, rfl, rfl, Lib.hid ⟨by simp [Rises], by simp⟩, rfl⟩
  case round =>
    obtain ⟨k, hk, rfl, rfl, HT, rfl⟩ := hrel
    by_cases hlt : k < l.length
    · obtain ⟨bv, ov, rfl, dv⟩ := HCV.out (by omega)
      have gv := dv k hlt
      obtain ⟨x, hx⟩ : ∃ x, x = l[k]?.getD 0 := ⟨_, rfl⟩
      obtain ⟨m, hm⟩ : ∃ m, m = lastI l k := ⟨_, rfl⟩
      rw [← hx] at gv
      rw [← hm]
      have HLT := Lib.hid hlt
      have HXX := Lib.hid hx
      have HM := Lib.hid hm
      clear dv hx hm
      by_cases h1 : x ≤ m
      · have HO : Hid (riseB l 0 (n - 1) = false) := Lib.hid (rise_low HLT.out (by rw [← HXX.out, ← HM.out]; exact h1))
        go_wp2
        go_ret
        exact ⟨by rw [HO.out]; rfl, Ext.refl _⟩
      · have HR := Lib.hid (rise_more (hi := n - 1) HLT.out (by rw [← HXX.out, ← HM.out]; exact h1) HT.out.1)
        go_wp2_with fail
        refine (isReplica_any n x _).mono ?_
        rintro e w1 ⟨rfl, rfl⟩
        have hrep : repB n x = inB x 0 (n - 1) := by unfold repB; rw [HN.out, Bool.true_and]
        rw [hrep]
        clear hrep
        cases hb : inB x 0 (n - 1) with
        | false =>
          have HO : Hid (riseB l 0 (n - 1) = false) := Lib.hid (riseB_out HLT.out (by rw [HXX.out, List.getElem?_eq_getElem HLT.out, Option.getD_some] at hb; exact hb))
          clear hb
          go_wp2
          go_ret
          exact ⟨by rw [HO.out]; rfl, Ext.refl _⟩
        | true =>
          have HA : Hid ((l.take (k + 1)).all (fun x => inB x 0 (n - 1)) = true) := Lib.hid (allx_take_succ HLT.out _ HT.out.2 (by rw [HXX.out, List.getElem?_eq_getElem HLT.out, Option.getD_some] at hb; exact hb))
          have HS : Hid (x = lastI l (k + 1)) := Lib.hid HXX.out
          clear hb
          go_wp2
          go_roundw
          case rel => exact ⟨k + 1, by have := HLT.out; omega, by go_num, by rw [HS.out], Lib.hid ⟨HR.out, HA.out⟩, by trivial⟩
          case measure => simp [intOf]; have := HLT.out; omega
    · obtain rfl : k = l.length := by omega
      have HR : Hid (riseB l 0 (n - 1) = true) := Lib.hid (riseB_all HT.out.1 HT.out.2)
      go_wp2
      go_ret
      exact ⟨by rw [HR.out]; rfl, Ext.refl _⟩
end Go.Proofs.YtbffkidkfannhaaGreat

namespace Go.Proofs.YtbffkidkfannhaaGreat
open Go.RowKit
set_option linter.unusedVariables false

/-- A number comes back: from 0 on just where x is met. -/
def IndexOf (l : List Int) (x : Int) (w : World) (e : Ending) (w' : World) : Prop := ∃ n : Int, e = .returned (.int .i64 n) ∧ decide (0 ≤ n) = hasI l x ∧ Ext w w'

set_option maxHeartbeats 800000 in
theorem index_any (v : Value) (l : List Int) (x : Int) (w : World) (hv : Ints w v l) : Calls Tryz.prog 143 #[v, .int .i64 x] w (IndexOf l x w) := by
  obtain ⟨av, cv, rfl, hlv, _, hcv⟩ := hv
  unfold maxLen at hlv
  have DV := Lib.hid hcv
  clear hcv
  go_enter Tryz.func143, Tryz.ntmps143
  go_wp2
  go_loopw [5, 8] (fun _ i wr => ∃ k : Nat, k ≤ l.length ∧ i = .int .i64 k ∧ Hid ((l.take k).any (fun y => y == x) = false) ∧ Ext w wr) (fun _ i _ => l.length - (intOf i).toNat)
  case atStart => exact ⟨0, Nat.zero_le _, rfl, Lib.hid (by simp), Ext.refl _⟩
  case round =>
    obtain ⟨k, hk, rfl, hA, hx⟩ := hrel
    by_cases hlt : k < l.length
    · obtain ⟨bv, ov, rfl, dv⟩ := DV.out (by omega)
      have gv := hx.cell (dv k hlt)
      have hst := any_take_succ (p := fun y => y == x) hlt hA.out
      have htr := any_true_at (p := fun y => y == x) hlt
      rw [List.getElem?_eq_getElem hlt, Option.getD_some] at gv hst htr
      obtain ⟨n, hn⟩ : ∃ n, n = l[k] := ⟨_, rfl⟩
      rw [← hn] at gv hst htr
      have HST := Lib.hid hst
      have HTR := Lib.hid htr
      clear hst htr hn dv
      by_cases e : x = n
      · have e1 : (x == n) = true := by simp [e]
        have HT : Hid (hasI l x = true) := Lib.hid (HTR.out (by simp [e]))
        clear e
        go_wp2
        go_ret
        exact ⟨(k : Int), rfl, by rw [HT.out]; simp, hx⟩
      · have e1 : (x == n) = false := by simp [e]
        have HT : Hid ((l.take (k + 1)).any (fun y => y == x) = false) := Lib.hid (HST.out (by simp; omega))
        clear e
        go_wp2
        go_roundw
        case rel => exact ⟨k + 1, by omega, by go_num, HT, hx⟩
        case measure => simp [intOf]; omega
    · obtain rfl : k = l.length := by omega
      have HT : Hid (hasI l x = false) := Lib.hid (by have := hA.out; rw [List.take_length] at this; exact this)
      go_wp2
      go_ret
      exact ⟨-1, rfl, by rw [HT.out]; decide, hx⟩

set_option maxHeartbeats 800000 in
theorem contains_any (v : Value) (l : List Int) (x : Int) (w : World) (hv : Ints w v l) : Calls Tryz.prog 132 #[v, .int .i64 x] w (BoolExt (hasI l x) w) := by
  have HV := Lib.hid hv
  obtain ⟨av, cv, rfl, hlv, _, _⟩ := hv
  go_enter Tryz.func132, Tryz.ntmps132
  go_wp2_with fail
  refine (index_any _ l x _ HV.out).mono ?_
  rintro e w1 ⟨n, rfl, hn, x1⟩
  have HN := Lib.hid hn
  clear hn
  go_wp2
  go_ret
  exact ⟨by rw [← HN.out]; rfl, x1⟩

end Go.Proofs.YtbffkidkfannhaaGreat
