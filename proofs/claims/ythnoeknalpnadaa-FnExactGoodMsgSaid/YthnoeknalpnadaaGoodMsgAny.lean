/- Contracts of the two functions GoodMsg. -/
import Derived.Test.YthnoeknalpnadaaGoodMsgP
import Derived.Test.YthnoeknalpnadaaImplGoodMsg
import Derived.Test.YthnoeknalpnadaaImplGoodMsg2
import Derived.Test.YthnoeknalpnadaaImplGoodMsg3
import Derived.Test.YthnoeknalpnadaaImplGoodMsg4
import Derived.Test.YthnoeknalpnadaaImplGoodMsg6
namespace Go.Proofs.Ythnoeknalpnadaa
open Go.RowKit
set_option linter.unusedVariables false

set_option maxHeartbeats 4000000 in
set_option maxRecDepth 100000 in
theorem implGoodMsg_no (n : Int) (r : MsgD) (u : Value) (w : World) (h : inB r.kd 1 7 = false) :
    Calls Try.prog 73 #[.int .i64 n, .agg #[.int .i64 r.kd, .int .i64 r.fr, .int .i64 r.tt, .int .i64 r.rp, .int .i64 r.no, .int .i64 r.b, .int .i64 r.v, .int .i64 r.st, .int .i64 r.k, .int .i64 r.i, .int .i64 r.f, .int .i64 r.t, .int .i64 r.a, .int .i64 r.s, u]] w (BoolExt false w) := by
  have HH := Lib.hid h
  have xb := Ext.alloc1 w (.cells #[.int .i64 r.kd, .int .i64 r.fr, .int .i64 r.tt, .int .i64 r.rp, .int .i64 r.no, .int .i64 r.b, .int .i64 r.v, .int .i64 r.st, .int .i64 r.k, .int .i64 r.i, .int .i64 r.f, .int .i64 r.t, .int .i64 r.a, .int .i64 r.s, u] 110)
  clear h
  go_enter Try.func73, Try.ntmps73
  go_wp2_with fail
  refine (contentOf_no r _ _ HH.out).mono ?_
  rintro e w1 ⟨rfl, x1⟩
  have hx := xb.trans x1
  clear x1 xb
  go_wp2
  go_ret
  exact ⟨rfl, hx⟩

theorem implGoodMsg_any (n : Int) (r : MsgD) (u : Value) (w : World) (hv : Ints w u r.l) (hs : r.l.length ≤ 1099511627776) :
    Calls Try.prog 73 #[.int .i64 n, .agg #[.int .i64 r.kd, .int .i64 r.fr, .int .i64 r.tt, .int .i64 r.rp, .int .i64 r.no, .int .i64 r.b, .int .i64 r.v, .int .i64 r.st, .int .i64 r.k, .int .i64 r.i, .int .i64 r.f, .int .i64 r.t, .int .i64 r.a, .int .i64 r.s, u]] w (BoolExt (goodM n r) w) := by
  unfold goodM
  cases hk : inB r.kd 1 7 with
  | false => rw [Bool.false_and]; exact implGoodMsg_no n r u w hk
  | true =>
    rw [Bool.true_and]
    have hk2 : 1 ≤ r.kd ∧ r.kd ≤ 7 := by unfold inB at hk; simpa using hk
    have hc : r.kd = 1 ∨ r.kd = 2 ∨ r.kd = 3 ∨ r.kd = 4 ∨ r.kd = 5 ∨ r.kd = 6 ∨ r.kd = 7 := by omega
    rcases hc with h | h | h | h | h | h | h
    · exact implGoodMsg_1 n r u w hv hs h
    · exact implGoodMsg_2 n r u w hv hs h
    · exact implGoodMsg_3 n r u w hv hs h
    · exact implGoodMsg_4 n r u w hv hs h
    · exact implGoodMsg_5 n r u w hv hs h
    · exact implGoodMsg_6 n r u w hv hs h
    · exact implGoodMsg_7 n r u w hv hs h

theorem specGoodMsg_any (n : Int) (r : MsgD) (u : Value) (w : World) (hv : Ints w u r.l) :
    Calls Try.prog 71 #[.int .i64 n, .agg #[.int .i64 r.kd, .int .i64 r.fr, .int .i64 r.tt, .int .i64 r.rp, .int .i64 r.no, .int .i64 r.b, .int .i64 r.v, .int .i64 r.st, .int .i64 r.k, .int .i64 r.i, .int .i64 r.f, .int .i64 r.t, .int .i64 r.a, .int .i64 r.s, u]] w (BoolExt (goodM n r) w) := by
  rw [← goodG_eq]
  unfold goodG
  cases hh : headG n r with
  | false => rw [Bool.false_and]; exact specGoodMsg_head n r u w hh
  | true =>
    rw [Bool.true_and]
    by_cases k7 : r.kd = 7
    · rw [if_pos k7]
      exact specGoodMsg_row n r u w hv hh k7
    · rw [if_neg k7]
      have e7 : (r.kd == 7) = false := by simpa using k7
      unfold bodyG
      cases ev : (r.v == 0) with
      | false =>
        have e := specGoodMsg_v n r u w hv hh e7 (by simpa using ev)
        simpa using e
      | true =>
        have ev' : (r.v != 0) = false := by simpa using ev
        cases es : (r.st == 0) with
        | false =>
          have e := specGoodMsg_st n r u w hv hh e7 ev' (by simpa using es)
          simpa using e
        | true =>
          have es' : (r.st != 0) = false := by simpa using es
          cases hd : goodD n r.s r.l with
          | false =>
            have e := specGoodMsg_d n r u w hv hh e7 ev' es' hd
            simpa using e
          | true =>
            cases hc : goodB r.k r.i r.f r.t r.a with
            | false =>
              have e := specGoodMsg_c n r u w hv hh e7 ev' es' hd hc
              simpa using e
            | true =>
              simp only [Bool.true_and]
              by_cases k5 : r.kd = 5
              · have e5 : (r.kd == 5) = true := by simpa using k5
                have e2 : (r.kd == 2) = false := by simp; omega
                have e4 : (r.kd == 4) = false := by simp; omega
                have e6 : (r.kd == 6) = false := by simp; omega
                have el : lastG n r = true := by unfold lastG; rw [if_neg (by omega), if_neg (by omega)]
                rw [e5, el]
                cases eb : (r.b == 0) with
                | false => exact specGoodMsg_5no n r u w hv hh e7 ev' es' hd hc e5 (by simpa using eb)
                | true => exact specGoodMsg_5 n r u w hv hh e7 ev' es' hd hc e5 (by simpa using eb) e2 e4 e6
              · have e5 : (r.kd == 5) = false := by simpa using k5
                rw [e5]
                simp only [Bool.false_and, Bool.not_false, Bool.true_and]
                by_cases k2 : r.kd = 2
                · have el : lastG n r = zeroC r.k r.i r.f r.t r.a := by unfold lastG; rw [if_pos k2]
                  rw [el]
                  exact specGoodMsg_2 n r u w hv hh e7 ev' es' hd hc e5 (by simpa using k2)
                · have e2 : (r.kd == 2) = false := by simpa using k2
                  by_cases k4 : r.kd = 4
                  · have el : lastG n r = (zeroC r.k r.i r.f r.t r.a && sameA r.s 0 r.l (noneL n)) := by unfold lastG; rw [if_neg k2, if_pos (.inl k4)]
                    rw [el]
                    exact specGoodMsg_4 n r u w hv hh e7 ev' es' hd hc e5 e2 (by simpa using k4)
                  · have e4 : (r.kd == 4) = false := by simpa using k4
                    by_cases k6 : r.kd = 6
                    · have el : lastG n r = (zeroC r.k r.i r.f r.t r.a && sameA r.s 0 r.l (noneL n)) := by unfold lastG; rw [if_neg k2, if_pos (.inr k6)]
                      rw [el]
                      exact specGoodMsg_6 n r u w hv hh e7 ev' es' hd hc e5 e2 e4 (by simpa using k6)
                    · have e6 : (r.kd == 6) = false := by simpa using k6
                      have el : lastG n r = true := by unfold lastG; rw [if_neg k2, if_neg (by omega)]
                      rw [el]
                      exact specGoodMsg_13 n r u w hv hh e7 ev' es' hd hc e5 e2 e4 e6
end Go.Proofs.Ythnoeknalpnadaa
