/- Texts of this proof, part p1: words, plain facts, contracts. -/
import Derived.Test.YtbffkidkfannhaaGreatMGoodNeto
import Derived.Test.YtbffkidkfannhaaGreatMGoodNetf
import Derived.Test.YtbffkidkfannhaaGreatMGoodNetn
import Derived.Test.YtbffkidkfannhaaGreatMGoodNeth
import Derived.Test.YtbffkidkfannhaaGreatMGoodNetc
import Derived.Test.YtbffkidkfannhaaGreatMGoodNetb
import Derived.Test.YtbffkidkfannhaaGreatMGoodNetl

namespace Go.Proofs.YtbffkidkfannhaaGreat
open Go.RowKit
set_option linter.unusedVariables false

/-- Whether a lead stands ahead of another. -/
def lexD (p d : LeadD) : Bool := !(decide (d.rp < p.rp)) && !(p.rp == d.rp && decide (d.no ≤ p.no))
/-- Whether the lead at place k is good and stands behind the one ahead of it. -/
def stepL (n me : Int) (L : List LeadD) (k : Nat) : Bool :=
  match L[k]? with
  | none => true
  | some d => leadB n me d && (match k with
    | 0 => true
    | j + 1 => match L[j]? with
      | none => true
      | some p => lexD p d)
def leadsB (n me : Int) (L : List LeadD) : Bool := (List.range L.length).all (stepL n me L)
def goodRep (me n : Int) (T : List (List RowD)) (L : List LeadD) : Bool := goodTab n T && (inB me 0 (n - 1) && leadsB n me L)
theorem step_succ {n me : Int} {L : List LeadD} {k : Nat} (h : ∀ j, j < k → stepL n me L j = true) (hk : stepL n me L k = true) : ∀ j, j < k + 1 → stepL n me L j = true := fun j hj => by
  by_cases e : j = k
  · rw [e]; exact hk
  · exact h j (by omega)
theorem goodRep_no {me n : Int} {T : List (List RowD)} {L : List LeadD} {k : Nat} (h : k < L.length) (hk : stepL n me L k = false) : goodRep me n T L = false := by
  have : leadsB n me L = false := by
    unfold leadsB
    rw [List.all_eq_false]
    exact ⟨k, List.mem_range.2 h, by rw [hk]; simp⟩
  unfold goodRep
  rw [this, Bool.and_false, Bool.and_false]
theorem goodRep_yes {me n : Int} {T : List (List RowD)} {L : List LeadD} (h1 : goodTab n T = true) (h2 : inB me 0 (n - 1) = true) (h : ∀ j, j < L.length → stepL n me L j = true) : goodRep me n T L = true := by
  have : leadsB n me L = true := by
    unfold leadsB
    rw [List.all_eq_true]
    exact fun j hj => h j (List.mem_range.1 hj)
  unfold goodRep
  rw [h1, h2, this]; rfl
theorem step_bad {n me : Int} {L : List LeadD} {k : Nat} (h : k < L.length) (hb : leadB n me L[k] = false) : stepL n me L k = false := by
  unfold stepL
  rw [List.getElem?_eq_getElem h]
  simp only [hb, Bool.false_and]
theorem step_first {n me : Int} {L : List LeadD} (h : 0 < L.length) (hb : leadB n me L[0] = true) : stepL n me L 0 = true := by
  unfold stepL
  rw [List.getElem?_eq_getElem h]
  simp only [hb, Bool.true_and]
theorem step_next {n me : Int} {L : List LeadD} {j : Nat} (h : j + 1 < L.length) (hb : leadB n me L[j + 1] = true) : stepL n me L (j + 1) = lexD (L[j]'(by omega)) L[j + 1] := by
  unfold stepL
  rw [List.getElem?_eq_getElem h]
  simp only [hb, Bool.true_and, List.getElem?_eq_getElem (show j < L.length by omega)]
theorem goodTab_isGrp {n : Int} {T : List (List RowD)} (h : goodTab n T = true) : isGrp n = true := by
  cases hg : isGrp n with
  | true => rfl
  | false => rw [goodTab_grp hg] at h; cases h
set_option maxHeartbeats 8000000 in
set_option maxRecDepth 100000 in
theorem specGoodRep_any (me n : Int) (u v : Value) (T : List (List RowD)) (L : List LeadD) (w : World) (hu : Rowzz w u T) (hv : Leadz w v L) :
    Calls Tryz.prog 35 #[.agg #[.int .i64 me, .int .i64 n, u, v]] w (BoolExt (goodRep me n T L) w) := by
  obtain ⟨wb, hwb⟩ : ∃ wb, wb = w.alloc (.cells #[.int .i64 me, .int .i64 n, u, v] 70) := ⟨_, rfl⟩
  have x0 : Ext w wb := by rw [hwb]; exact Ext.alloc1 _ _
  have HR := Lib.hid (show RepAt wb w.heap.size me n u v by rw [hwb]; exact repAt_new _ _ _ _ _ _)
  have HU := Lib.hid (hu.ext x0)
  have HZ : Hid (w.heap.size < wb.heap.size) := Lib.hid (by rw [hwb]; simp)
  have HX0 := Lib.hid x0
  have HW := Lib.hid hwb
  obtain ⟨av, cv, rfl, hlv, _, hcv⟩ := hv
  unfold maxLen at hlv
  have HCV := Lib.hid hcv
  clear hu hwb x0 hcv
  go_enter Tryz.func35, Tryz.ntmps35
  obtain ⟨p0, p1, p2, p3⟩ := HR.out
  go_wp2_with fail
  rw [← HW.out]
  refine (specGoodTable_any n u T _ HU.out).mono ?_
  rintro e w1 ⟨rfl, x1⟩
  have HX1 := Lib.hid (HX0.out.trans x1)
  have HX1w := Lib.hid x1
  clear x1 p0 p1 p2 p3 HX0
  cases hg : goodTab n T with
  | false =>
    have HO : Hid (goodRep me n T L = false) := Lib.hid (by unfold goodRep; rw [hg]; rfl)
    go_wp2
    go_ret
    exact ⟨by rw [HO.out]; rfl, HX1.out⟩
  | true =>
    have HG := Lib.hid hg
    have HN := Lib.hid (goodTab_isGrp hg)
    obtain ⟨h3, h5⟩ : 3 ≤ n ∧ n ≤ 5 := by rcases isGrp_of HN.out with rfl | rfl <;> omega
    clear hg
    obtain ⟨p0, p1, p2, p3⟩ := HR.out.ext HX1w.out
    go_wp2_with fail
    refine (l1In_any me 0 (n - 1) _).mono ?_
    rintro e w2 ⟨rfl, rfl⟩
    cases hm : inB me 0 (n - 1) with
    | false =>
      have HO : Hid (goodRep me n T L = false) := Lib.hid (by unfold goodRep; rw [hm, Bool.false_and, Bool.and_false])
      go_wp2
      go_ret
      exact ⟨by rw [HO.out]; rfl, HX1.out⟩
    | true =>
      have HM := Lib.hid hm
      clear hm
      go_wp2
      clear p0 p1 p2 p3
      go_loopw [3, 23] (fun _ i wr => ∃ k : Nat, k ≤ L.length ∧ i = .int .i64 k ∧ Hid (∀ j, j < k → stepL n me L j = true) ∧ Hid (Ext w wr) ∧ Hid (Ext wb wr)) (fun _ i _ => L.length - (intOf i).toNat)
      case atStart => exact ⟨0, Nat.zero_le _, rfl, Lib.hid (fun j h => by omega), HX1, HX1w⟩
      case round =>
        obtain ⟨k, hk, rfl, HT, HX, HXW⟩ := hrel
        by_cases hlt : k < L.length
        · obtain ⟨b, off, rfl, dv⟩ := HCV.out (by omega)
          obtain ⟨d, hd⟩ : ∃ d, d = L[k] := ⟨_, rfl⟩
          obtain ⟨u1, u2, u3, u4, hy, iy⟩ := dv k hlt
          rw [← hd] at hy iy
          obtain ⟨b1, c1, rfl, _⟩ := id iy.i1
          obtain ⟨b2, c2, rfl, _⟩ := id iy.i2
          obtain ⟨b3, c3, rfl, _⟩ := id iy.i3
          obtain ⟨b4, c4, rfl, _⟩ := id iy.i4
          have HD := Lib.hid hd
          have HLT := Lib.hid hlt
          have HDV := Lib.hid dv
          obtain ⟨a0, a1, a2, a3, a4, a5, a6, a7, a8, a9, a10, a11, a12, a13, a14, a15⟩ := leadIn_cells (hy.ext HX.out)
          obtain ⟨p0, p1, p2, p3⟩ := HR.out.ext HXW.out
          have hbw : w.heap.size < wr.heap.size := Nat.lt_of_lt_of_le HZ.out HXW.out.size
          obtain ⟨w2, hw2⟩ : ∃ w2, w2 = wr.alloc (.cells #[.int .i64 d.rp, .int .i64 d.no, .int .i64 d.bl, .int .i64 d.ph, .int .i64 d.k, .int .i64 d.i, .int .i64 d.f, .int .i64 d.t, .int .i64 d.a, .int .i64 d.s1, .slice b1 d.l1.length c1, .int .i64 d.s2, .slice b2 d.l2.length c2, .bool d.sm, .slice b3 d.who.length c3, .slice b4 d.seen.length c4] 123) := ⟨_, rfl⟩
          have x2 : Ext wr w2 := by rw [hw2]; exact Ext.alloc1 _ _
          have ST : Hid (w2.cell? ⟨wr.heap.size, 0, none⟩ = some (.int .i64 d.rp) ∧ w2.cell? ⟨wr.heap.size, 1, none⟩ = some (.int .i64 d.no)) := Lib.hid (by rw [hw2]; constructor <;> go_simp)
          have SZ : Hid (wr.heap.size < w2.heap.size) := Lib.hid (by rw [hw2]; simp)
          have IY := Lib.hid ((iy.ext HX.out).ext x2)
          have HW2 := Lib.hid hw2
          have X2 := Lib.hid (HX.out.trans x2)
          have X2W := Lib.hid (HXW.out.trans x2)
          clear dv hd hy iy hw2 x2
          go_wp2_with fail
          rw [← HW2.out]
          refine (l8Lead_any n me d _ _ _ _ _ IY.out HN.out).mono ?_
          rintro e w3 ⟨rfl, x3⟩
          have X3 := Lib.hid (X2.out.trans x3)
          have X3W := Lib.hid (X2W.out.trans x3)
          obtain ⟨s0, s1⟩ := ST.out
          have s0 := x3.cell s0
          have s1 := x3.cell s1
          have hsz : wr.heap.size < w3.heap.size := Nat.lt_of_lt_of_le SZ.out x3.size
          clear x3 p0 p1 p2 p3 IY HW2 X2 X2W ST SZ a0 a1 a2 a3 a4 a5 a6 a7 a8 a9 a10 a11 a12 a13 a14 a15
          as_aux_lemma =>
            cases hb : leadB n me d with
            | false =>
              clear s0 s1
              have HO : Hid (goodRep me n T L = false) := Lib.hid (goodRep_no HLT.out (step_bad HLT.out (by rw [← HD.out]; exact hb)))
              go_wp2
              go_ret
              exact ⟨by rw [HO.out]; rfl, by first | exact X3.out | exact X3.out.alloc _⟩
            | true =>
              rcases Nat.eq_zero_or_pos k with h0 | h0
              · have e0 : ¬ ((0 : Int) < (k : Int)) := by omega
                as_aux_lemma =>
                  have H0 := Lib.hid h0
                  have HB := Lib.hid hb
                  clear s0 s1 h0 hb
                  have HT1 : Hid (∀ j, j < k + 1 → stepL n me L j = true) := Lib.hid (step_succ HT.out (by have h := H0.out; have hd := HD.out; subst h; exact step_first HLT.out (by rw [← hd]; exact HB.out)))
                  go_wp2
                  go_roundw
                  case rel => exact ⟨k + 1, by omega, by go_num, HT1, Lib.hid (by first | exact X3.out | exact X3.out.alloc _), Lib.hid (by first | exact X3W.out | exact X3W.out.alloc _)⟩
                  case measure => simp [intOf]; omega
              · obtain ⟨j, hj⟩ : ∃ j, j = k - 1 := ⟨_, rfl⟩
                have hjl : j < L.length := by omega
                have e1 : (k : Int) - 1 = (j : Int) := by omega
                have e0 : (0 : Int) < (k : Int) := by omega
                obtain ⟨p, hp⟩ : ∃ p, p = L[j] := ⟨_, rfl⟩
                obtain ⟨v1, v2, v3, v4, hq, iq⟩ := HDV.out j hjl
                rw [← hp] at hq iq
                obtain ⟨g1, f1, rfl, _⟩ := iq.i1
                obtain ⟨g2, f2, rfl, _⟩ := iq.i2
                obtain ⟨g3, f3, rfl, _⟩ := iq.i3
                obtain ⟨g4, f4, rfl, _⟩ := iq.i4
                obtain ⟨q0, q1, q2, q3, q4, q5, q6, q7, q8, q9, q10, q11, q12, q13, q14, q15⟩ := leadIn_cells (hq.ext X3.out)
                obtain ⟨p0, p1, p2, p3⟩ := HR.out.ext X3W.out
                have HS : Hid (stepL n me L k = lexD p d) := Lib.hid (by
                  have hkj : k = j + 1 := by omega
                  subst hkj
                  rw [HD.out] at hb ⊢
                  rw [hp]
                  exact step_next HLT.out hb)
                clear hq iq hp hj h0 hb
                have hbw3 : w.heap.size < w3.heap.size := Nat.lt_of_lt_of_le HZ.out X3W.out.size
                by_cases q1 : d.rp < p.rp
                · skip
                  as_aux_lemma =>
                    have HO : Hid (goodRep me n T L = false) := Lib.hid (goodRep_no HLT.out (by rw [HS.out]; unfold lexD; rw [decide_eq_true q1]; rfl))
                    go_wp2
                    go_ret
                    exact ⟨by rw [HO.out]; rfl, by first | exact X3.out | exact X3.out.alloc _⟩
                · cases q2 : (p.rp == d.rp) with
                  | false =>
                    as_aux_lemma =>
                      have HT1 : Hid (∀ j, j < k + 1 → stepL n me L j = true) := Lib.hid (step_succ HT.out (by rw [HS.out]; unfold lexD; rw [decide_eq_false q1, q2]; rfl))
                      go_wp2
                      go_roundw
                      case rel => exact ⟨k + 1, by omega, by go_num, HT1, Lib.hid (by first | exact X3.out | exact X3.out.alloc _), Lib.hid (by first | exact X3W.out | exact X3W.out.alloc _)⟩
                      case measure => simp [intOf]; omega
                  | true =>
                    by_cases q3 : d.no ≤ p.no
                    · skip
                      as_aux_lemma =>
                        have HO : Hid (goodRep me n T L = false) := Lib.hid (goodRep_no HLT.out (by rw [HS.out]; unfold lexD; rw [decide_eq_false q1, q2, decide_eq_true q3]; rfl))
                        go_wp2
                        go_ret
                        exact ⟨by rw [HO.out]; rfl, by first | exact X3.out | exact X3.out.alloc _⟩
                    · skip
                      as_aux_lemma =>
                        have HT1 : Hid (∀ j, j < k + 1 → stepL n me L j = true) := Lib.hid (step_succ HT.out (by rw [HS.out]; unfold lexD; rw [decide_eq_false q1, q2, decide_eq_false q3]; rfl))
                        go_wp2
                        go_roundw
                        case rel => exact ⟨k + 1, by omega, by go_num, HT1, Lib.hid (by first | exact X3.out | exact X3.out.alloc _), Lib.hid (by first | exact X3W.out | exact X3W.out.alloc _)⟩
                        case measure => simp [intOf]; omega
        · obtain rfl : k = L.length := by omega
          have HO : Hid (goodRep me n T L = true) := Lib.hid (goodRep_yes HG.out HM.out HT.out)
          go_wp2
          go_ret
          exact ⟨by rw [HO.out]; rfl, HX.out⟩
end Go.Proofs.YtbffkidkfannhaaGreat

namespace Go.Proofs.YtbffkidkfannhaaGreat
open Go.RowKit
set_option linter.unusedVariables false

theorem rangeAll_no {f : Nat → Bool} {m k : Nat} (h : k < m) (hk : f k = false) : (List.range m).all f = false := by
  rw [List.all_eq_false]
  exact ⟨k, List.mem_range.2 h, by rw [hk]; simp⟩
theorem rangeAll_yes {f : Nat → Bool} {m : Nat} (h : ∀ j, j < m → f j = true) : (List.range m).all f = true := by
  rw [List.all_eq_true]
  exact fun j hj => h j (List.mem_range.1 hj)
theorem upTo_succ {f : Nat → Bool} {k : Nat} (h : ∀ j, j < k → f j = true) (hk : f k = true) : ∀ j, j < k + 1 → f j = true := fun j hj => by
  by_cases e : j = k
  · rw [e]; exact hk
  · exact h j (by omega)
def sameAt (d b : AskD) : Bool := d.rp == b.rp && d.no == b.no
def ask1 (n : Int) (d : AskD) : Bool := instB n d.rp d.no && (goodB d.k d.i d.f d.t d.a && !(d.k == 0))
def askAt (n : Int) (K : List AskD) (k : Nat) : Bool := match K[k]? with
  | none => true
  | some d => ask1 n d && !((K.take k).any (sameAt d))
def askB (n : Int) (K : List AskD) : Bool := (List.range K.length).all (askAt n K)
theorem askAt_get {n : Int} {K : List AskD} {k : Nat} (h : k < K.length) : askAt n K k = (ask1 n K[k] && !((K.take k).any (sameAt K[k]))) := by
  unfold askAt
  rw [List.getElem?_eq_getElem h]
theorem anyP_take_succ {α : Type} {l : List α} {k : Nat} (h : k < l.length) (p : α → Bool) : (l.take (k + 1)).any p = ((l.take k).any p || p l[k]) := by
  rw [List.take_succ_eq_append_getElem h, List.any_append]
  simp
theorem any_take_false {α : Type} {l : List α} {k m : Nat} (p : α → Bool) (hm : m < k) (hk : k ≤ l.length) (hp : p (l[m]'(by omega)) = true) : (l.take k).any p = true := by
  rw [List.any_eq_true]
  refine ⟨l[m]'(by omega), ?_, hp⟩
  rw [List.mem_iff_getElem]
  exact ⟨m, by rw [List.length_take]; omega, by rw [List.getElem_take]⟩
def repAtB (n : Int) (R : List RepD) (k : Nat) : Bool := match R[k]? with
  | none => true
  | some d => goodRep d.me d.n d.T d.L && (d.me == (k : Int) && d.n == n)
theorem repAtB_get {n : Int} {R : List RepD} {k : Nat} (h : k < R.length) : repAtB n R k = (goodRep R[k].me R[k].n R[k].T R[k].L && (R[k].me == (k : Int) && R[k].n == n)) := by
  unfold repAtB
  rw [List.getElem?_eq_getElem h]
def repsB (n : Int) (R : List RepD) : Bool := (List.range R.length).all (repAtB n R)
def mesAtB (n : Int) (M : List MsgD) (k : Nat) : Bool := match M[k]? with
  | none => true
  | some d => goodM n d
theorem mesAtB_get {n : Int} {M : List MsgD} {k : Nat} (h : k < M.length) : mesAtB n M k = goodM n M[k] := by
  unfold mesAtB
  rw [List.getElem?_eq_getElem h]
def mesB (n : Int) (M : List MsgD) : Bool := decide (M.length ≤ 80) && (List.range M.length).all (mesAtB n M)
/-- Is a net good? -/
def goodNet (R : List RepD) (M : List MsgD) (K : List AskD) : Bool := isGrp R.length && (repsB R.length R && (mesB R.length M && askB R.length K))

set_option maxHeartbeats 8000000 in
set_option maxRecDepth 100000 in
theorem l9Asked_any (n : Int) (v : Value) (K : List AskD) (w : World) (hv : Askz w v K) (hn : isGrp n = true) :
    Calls Tryz.prog 34 #[.int .i64 n, v] w (BoolExt (askB n K) w) := by
  obtain ⟨h3, h5⟩ : 3 ≤ n ∧ n ≤ 5 := by rcases isGrp_of hn with rfl | rfl <;> omega
  obtain ⟨av, cv, rfl, hlv, ⟨hcap, hcm, _⟩, hcv⟩ := hv
  unfold maxLen at hlv hcm
  have HCV := Lib.hid hcv
  clear hcv hn
  go_enter Tryz.func34, Tryz.ntmps34
  go_wp2
  go_loopw [11] (fun i wr => ∃ k : Nat, k ≤ K.length ∧ i = .int .i64 k ∧ Hid (∀ j, j < k → askAt n K j = true) ∧ Hid (Ext w wr)) (fun i _ => K.length - (intOf i).toNat)
  case atStart => exact ⟨0, Nat.zero_le _, rfl, Lib.hid (fun j h => by omega), Lib.hid (Ext.refl _)⟩
  case round =>
    obtain ⟨k, hk, rfl, HT, HX⟩ := hrel
    by_cases hlt : k < K.length
    · obtain ⟨b, off, rfl, dv⟩ := HCV.out (by omega)
      obtain ⟨d, hd⟩ : ∃ d, d = K[k] := ⟨_, rfl⟩
      have hy := dv k hlt
      rw [← hd] at hy
      obtain ⟨a0, a1, a2, a3, a4, a5, a6⟩ := askIn_cells (hy.ext HX.out)
      obtain ⟨wo, hwo⟩ : ∃ wo : World, wo = wr := ⟨_, rfl⟩
      subst hwo
      obtain ⟨w2, hw2⟩ : ∃ w2, w2 = wo.alloc (.cells #[.int .i64 d.rp, .int .i64 d.no, .int .i64 d.k, .int .i64 d.i, .int .i64 d.f, .int .i64 d.t, .int .i64 d.a] 106) := ⟨_, rfl⟩
      have x2 : Ext wo w2 := by rw [hw2]; exact Ext.alloc1 _ _
      have HB : Hid (BoxV w2 wo.heap.size (askVs d)) := Lib.hid (by rw [hw2]; exact ask_box wo _ d)
      have HAT : Hid (askAt n K k = (ask1 n d && !((K.take k).any (sameAt d)))) := Lib.hid (by rw [hd]; exact askAt_get hlt)
      have HD := Lib.hid hd
      have HDV := Lib.hid dv
      have HLT := Lib.hid hlt
      have X2 := Lib.hid (HX.out.trans x2)
      have HW2 := Lib.hid hw2
      clear dv hy hd hw2 x2
      go_wp2_with fail
      rw [← HW2.out]
      refine (l3Inst_any n d.rp d.no _ h3 h5).mono ?_
      rintro e w3 ⟨rfl, rfl⟩
      clear a0 a1 a2 a3 a4 a5 a6
      as_aux_lemma =>
        cases hc0 : instB n d.rp d.no with
        | false =>
          have HO : Hid (askB n K = false) := Lib.hid (rangeAll_no HLT.out (by rw [HAT.out]; unfold ask1; rw [hc0]; rfl))
          go_wp2
          go_ret
          exact ⟨by rw [HO.out]; rfl, X2.out⟩
        | true =>
          have HC0 := Lib.hid hc0
          clear hc0
          obtain ⟨a0, a1, a2, a3, a4, a5, a6⟩ := ask_cells HB.out
          go_wp2_with fail
          refine (specGood_any _ _ _ _ _ _).mono ?_
          rintro e w4 ⟨rfl, x4⟩
          have HB4 := Lib.hid (HB.out.ext x4)
          have X4 := Lib.hid (X2.out.trans x4)
          clear x4 a0 a1 a2 a3 a4 a5 a6
          cases hc1 : goodB d.k d.i d.f d.t d.a with
          | false =>
            have HO : Hid (askB n K = false) := Lib.hid (rangeAll_no HLT.out (by rw [HAT.out]; unfold ask1; rw [hc1]; simp))
            go_wp2
            go_ret
            exact ⟨by rw [HO.out]; rfl, X4.out⟩
          | true =>
            have HC1 := Lib.hid hc1
            clear hc1
            obtain ⟨a0, a1, a2, a3, a4, a5, a6⟩ := ask_cells HB4.out
            cases hc2 : (d.k == 0) with
            | true =>
              have HO : Hid (askB n K = false) := Lib.hid (rangeAll_no HLT.out (by rw [HAT.out]; unfold ask1; rw [hc2]; simp))
              go_wp2
              go_ret
              exact ⟨by rw [HO.out]; rfl, X4.out⟩
            | false =>
              have HS : Hid (askAt n K k = !((K.take k).any (sameAt d))) := Lib.hid (by rw [HAT.out]; unfold ask1; rw [HC0.out, HC1.out, hc2]; rfl)
              go_wp2
              clear a0 a1 a2 a3 a4 a5 a6 hc2
              as_aux_lemma =>
                go_loopw [39] (fun i wi => ∃ q : Nat, q ≤ k ∧ i = .int .i64 q ∧ Hid ((K.take q).any (sameAt d) = false) ∧ Hid (Ext w4 wi)) (fun i _ => k - (intOf i).toNat)
                case atStart => exact ⟨0, Nat.zero_le _, rfl, Lib.hid (by simp), Lib.hid (Ext.refl _)⟩
                case round =>
                  obtain ⟨q, hq, rfl, HN, HI⟩ := hrel
                  by_cases hql : q < k
                  · obtain ⟨y, hyd⟩ : ∃ y, y = K[q]'(by have := HLT.out; omega) := ⟨_, rfl⟩
                    have hz := HDV.out q (by have := HLT.out; omega)
                    rw [← hyd] at hz
                    obtain ⟨b0, b1, b2, b3, b4, b5, b6⟩ := askIn_cells (hz.ext (X4.out.trans HI.out))
                    obtain ⟨a0, a1, a2, a3, a4, a5, a6⟩ := ask_cells (HB4.out.ext HI.out)
                    have hbw : wo.heap.size < wr.heap.size := (HB4.out.ext HI.out).lt
                    have HY := Lib.hid hyd
                    have HQL := Lib.hid hql
                    have XI := Lib.hid ((X4.out.trans HI.out).alloc (.cells #[.int .i64 y.rp, .int .i64 y.no, .int .i64 y.k, .int .i64 y.i, .int .i64 y.f, .int .i64 y.t, .int .i64 y.a] 106))
                    have XJ := Lib.hid (HI.out.alloc (.cells #[.int .i64 y.rp, .int .i64 y.no, .int .i64 y.k, .int .i64 y.i, .int .i64 y.f, .int .i64 y.t, .int .i64 y.a] 106))
                    have HSA : Hid (sameAt d y = (d.rp == y.rp && d.no == y.no)) := Lib.hid rfl
                    clear hz hyd
                    cases e1 : (d.rp == y.rp) with
                    | false =>
                      have HN1 : Hid ((K.take (q + 1)).any (sameAt d) = false) := Lib.hid (by rw [anyP_take_succ (by have := HLT.out; have := HQL.out; omega), HN.out, ← HY.out, HSA.out, e1]; rfl)
                      go_wp2
                      go_roundw
                      case rel => exact ⟨q + 1, by omega, by go_num, HN1, XJ⟩
                      case measure => simp [intOf]; omega
                    | true =>
                      cases e2 : (d.no == y.no) with
                      | false =>
                        have HN1 : Hid ((K.take (q + 1)).any (sameAt d) = false) := Lib.hid (by rw [anyP_take_succ (by have := HLT.out; have := HQL.out; omega), HN.out, ← HY.out, HSA.out, e1, e2]; rfl)
                        go_wp2
                        go_roundw
                        case rel => exact ⟨q + 1, by omega, by go_num, HN1, XJ⟩
                        case measure => simp [intOf]; omega
                      | true =>
                        have HO : Hid (askB n K = false) := Lib.hid (rangeAll_no HLT.out (by
                          rw [HS.out, any_take_false (sameAt d) HQL.out (Nat.le_of_lt HLT.out) (by rw [← HY.out, HSA.out, e1, e2]; rfl)]; rfl))
                        go_wp2
                        go_ret
                        exact ⟨by rw [HO.out]; rfl, XI.out⟩
                  · obtain rfl : q = k := by omega
                    have HT1 : Hid (∀ j, j < q + 1 → askAt n K j = true) := Lib.hid (upTo_succ HT.out (by rw [HS.out, HN.out]; rfl))
                    have XI := Lib.hid (X4.out.trans HI.out)
                    go_wp2
                    go_roundw
                    case rel => exact ⟨q + 1, by have := HLT.out; omega, by go_num, HT1, XI⟩
                    case measure => simp [intOf]; have := HLT.out; omega
    · obtain rfl : k = K.length := by omega
      have HO : Hid (askB n K = true) := Lib.hid (rangeAll_yes HT.out)
      go_wp2
      go_ret
      exact ⟨by rw [HO.out]; rfl, HX.out⟩
end Go.Proofs.YtbffkidkfannhaaGreat
