/- Texts of this proof, part t: words, plain facts, contracts. -/
import Derived.Test.YtbffkidkfannhaaGreatMGoodNetq4
import Derived.Test.YtbffkidkfannhaaGreatMGoodNets
import Derived.Test.YtbffkidkfannhaaGreatMGoodNetp1
import Derived.Test.YtbffkidkfannhaaGreatMGoodNetd
import Derived.Test.YtbffkidkfannhaaGreatMGoodNetf
import Derived.Test.YtbffkidkfannhaaGreatMGoodNetg
import Derived.Test.YtbffkidkfannhaaGreatMGoodNeth

namespace Go.Proofs.YtbffkidkfannhaaGreat
open Go.RowKit
set_option linter.unusedVariables false

set_option maxHeartbeats 8000000 in
set_option maxRecDepth 100000 in
theorem areReps_any (n : Int) (u : Value) (R : List RepD) (w : World) (hu : Repz w u R) (hs : bulkRep R ≤ 549755813888) :
    Calls Tryz.prog 38 #[.int .i64 n, u] w (BoolExt (repsB n R) w) := by
  obtain ⟨au, cu, rfl, hlu, _, hcu⟩ := hu
  unfold maxLen at hlu
  have HCU := Lib.hid hcu
  have HS := Lib.hid hs
  clear hcu hs
  go_enter Tryz.func38, Tryz.ntmps38
  go_wp2
  go_loopw [9] (fun i wr => ∃ k : Nat, k ≤ R.length ∧ i = .int .i64 k ∧ Hid (∀ j, j < k → repAtB n R j = true) ∧ Hid (Ext w wr)) (fun i _ => R.length - (intOf i).toNat)
  case atStart => exact ⟨0, Nat.zero_le _, rfl, Lib.hid (fun j h => by omega), Lib.hid (Ext.refl _)⟩
  case round =>
    obtain ⟨k, hk, rfl, HT, HX⟩ := hrel
    by_cases hlt : k < R.length
    · obtain ⟨b, off, rfl, dv⟩ := HCU.out (by omega)
      obtain ⟨d, hd⟩ : ∃ d, d = R[k] := ⟨_, rfl⟩
      obtain ⟨y1, y2, hy, iy⟩ := dv k hlt
      rw [← hd] at hy iy
      obtain ⟨b1, c1, rfl, _⟩ := id iy.i1
      obtain ⟨b2, c2, rfl, _⟩ := id iy.i2
      have hbk : bulkT d.T + bulkL d.L ≤ 549755813888 := by rw [hd]; have h1 := bulkRep_at hlt; have h2 := HS.out; unfold bulk1Rep at h1; omega
      obtain ⟨a0, a1, a2, a3⟩ := repIn_cells (hy.ext HX.out)
      obtain ⟨w3, hw3⟩ : ∃ w3, w3 = wr.alloc (.cells #[.int .i64 d.me, .int .i64 d.n, .slice b1 d.T.length c1, .slice b2 d.L.length c2] 70) := ⟨_, rfl⟩
      have x3 : Ext wr w3 := by rw [hw3]; exact Ext.alloc1 _ _
      have IY := Lib.hid ((iy.ext HX.out).ext x3)
      have HAT : Hid (repAtB n R k = (goodRep d.me d.n d.T d.L && (d.me == (k : Int) && d.n == n))) := Lib.hid (by rw [hd]; exact repAtB_get hlt)
      have HLT := Lib.hid hlt
      have HBK := Lib.hid hbk
      have X3 := Lib.hid (HX.out.trans x3)
      have HW3 := Lib.hid hw3
      clear dv hy iy hd hw3 x3 hbk
      as_aux_lemma =>
        cases h2 : (d.me == (k : Int)) with
        | false =>
          have h2' : (d.me != (k : Int)) = true := by simpa using h2
          have HO : Hid (repsB n R = false) := Lib.hid (rangeAll_no HLT.out (by rw [HAT.out, h2]; simp))
          go_wp2
          go_ret
          exact ⟨by rw [HO.out]; rfl, by rw [← HW3.out]; exact X3.out⟩
        | true =>
          have h2' : (d.me != (k : Int)) = false := by simpa using h2
          cases h3 : (d.n == n) with
          | false =>
            have h3' : (d.n != n) = true := by simpa using h3
            have HO : Hid (repsB n R = false) := Lib.hid (rangeAll_no HLT.out (by rw [HAT.out, h3]; simp))
            go_wp2
            go_ret
            exact ⟨by rw [HO.out]; rfl, by rw [← HW3.out]; exact X3.out⟩
          | true =>
            have h3' : (d.n != n) = false := by simpa using h3
            have HS1 : Hid (repAtB n R k = goodRep d.me d.n d.T d.L) := Lib.hid (by rw [HAT.out, h2, h3]; simp)
            clear h2 h3
            go_wp2_with fail
            rw [← HW3.out]
            refine (implGoodRep_any d.me d.n _ _ d.T d.L _ IY.out.i1 IY.out.i2 (by have := HBK.out; omega) (by have := HBK.out; omega)).mono ?_
            rintro e w4 ⟨rfl, x4⟩
            have X4 := Lib.hid (X3.out.trans x4)
            clear x4 a0 a1 a2 a3 X3 IY HW3
            cases h1 : goodRep d.me d.n d.T d.L with
            | false =>
              have HO : Hid (repsB n R = false) := Lib.hid (rangeAll_no HLT.out (by rw [HS1.out, h1]))
              go_wp2
              go_ret
              exact ⟨by rw [HO.out]; rfl, X4.out⟩
            | true =>
              have HT1 : Hid (∀ j, j < k + 1 → repAtB n R j = true) := Lib.hid (upTo_succ HT.out (by rw [HS1.out, h1]))
              go_wp2
              go_roundw
              case rel => exact ⟨k + 1, by have := HLT.out; omega, by go_num, HT1, X4⟩
              case measure => simp [intOf]; have := HLT.out; omega
    · obtain rfl : k = R.length := by omega
      have HO : Hid (repsB n R = true) := Lib.hid (rangeAll_yes HT.out)
      go_wp2
      go_ret
      exact ⟨by rw [HO.out]; rfl, HX.out⟩
set_option maxHeartbeats 8000000 in
set_option maxRecDepth 100000 in
theorem areMsgs_any (n : Int) (v : Value) (M : List MsgD) (w : World) (hv : Mesz w v M) (hs : bulkMes M ≤ 549755813888) :
    Calls Tryz.prog 39 #[.int .i64 n, v] w (BoolExt (mesB n M) w) := by
  obtain ⟨av, cv, rfl, hlv, _, hcv⟩ := hv
  unfold maxLen at hlv
  have HCV := Lib.hid hcv
  have HS := Lib.hid hs
  clear hcv hs
  by_cases hm : (80 : Int) < (M.length : Int)
  · have HO : Hid (mesB n M = false) := Lib.hid (mesB_long (by omega))
    go_enter Tryz.func39, Tryz.ntmps39
    go_wp2
    go_ret
    exact ⟨by rw [HO.out]; rfl, Ext.refl _⟩
  · have HM : Hid (M.length ≤ 80) := Lib.hid (by omega)
    go_enter Tryz.func39, Tryz.ntmps39
    go_wp2
    clear hm
    go_loopw [12] (fun i wr => ∃ k : Nat, k ≤ M.length ∧ i = .int .i64 k ∧ Hid (∀ j, j < k → mesAtB n M j = true) ∧ Hid (Ext w wr)) (fun i _ => M.length - (intOf i).toNat)
    case atStart => exact ⟨0, Nat.zero_le _, rfl, Lib.hid (fun j h => by omega), Lib.hid (Ext.refl _)⟩
    case round =>
      obtain ⟨k, hk, rfl, HT, HY⟩ := hrel
      by_cases hlt : k < M.length
      · obtain ⟨b, off, rfl, dv⟩ := HCV.out (by omega)
        obtain ⟨d, hd⟩ : ∃ d, d = M[k] := ⟨_, rfl⟩
        obtain ⟨y1, hy, iy⟩ := dv k hlt
        rw [← hd] at hy iy
        obtain ⟨b1, c1, rfl, _⟩ := id iy.i1
        have hbk : d.l.length ≤ 1099511627776 := by rw [hd]; have h1 := bulkMes_at hlt; have h2 := HS.out; unfold bulk1Mes at h1; omega
        obtain ⟨a0, a1, a2, a3, a4, a5, a6, a7, a8, a9, a10, a11, a12, a13, a14⟩ := mesIn_cells (hy.ext HY.out)
        obtain ⟨w3, hw3⟩ : ∃ w3, w3 = wr.alloc (.cells #[.int .i64 d.kd, .int .i64 d.fr, .int .i64 d.tt, .int .i64 d.rp, .int .i64 d.no, .int .i64 d.b, .int .i64 d.v, .int .i64 d.st, .int .i64 d.k, .int .i64 d.i, .int .i64 d.f, .int .i64 d.t, .int .i64 d.a, .int .i64 d.s, .slice b1 d.l.length c1] 77) := ⟨_, rfl⟩
        have x3 : Ext wr w3 := by rw [hw3]; exact Ext.alloc1 _ _
        have IY := Lib.hid ((iy.ext HY.out).ext x3)
        obtain ⟨c, hc⟩ : ∃ c, c = goodM n d := ⟨_, rfl⟩
        have HAT : Hid (mesAtB n M k = c) := Lib.hid (by rw [hc, hd]; exact mesAtB_get hlt)
        have HC := Lib.hid hc
        have HLT := Lib.hid hlt
        have HBK := Lib.hid hbk
        have X3 := Lib.hid (HY.out.trans x3)
        have HW3 := Lib.hid hw3
        clear dv hy iy hd hw3 x3 hc hbk
        go_wp2_with fail
        rw [← HW3.out]
        have hcc := implGoodMsg_any n d _ _ IY.out.i1 HBK.out
        rw [← HC.out] at hcc
        refine hcc.mono ?_
        rintro e w4 ⟨rfl, x4⟩
        have X4 := Lib.hid (X3.out.trans x4)
        clear x4 hcc a0 a1 a2 a3 a4 a5 a6 a7 a8 a9 a10 a11 a12 a13 a14 X3 IY HW3
        cases c with
        | false =>
          have HO : Hid (mesB n M = false) := Lib.hid (mesB_no HLT.out HAT.out)
          go_wp2
          go_ret
          exact ⟨by rw [HO.out]; rfl, X4.out⟩
        | true =>
          have HT1 : Hid (∀ j, j < k + 1 → mesAtB n M j = true) := Lib.hid (upTo_succ HT.out HAT.out)
          go_wp2
          go_roundw
          case rel => exact ⟨k + 1, by have := HLT.out; omega, by go_num, HT1, X4⟩
          case measure => simp [intOf]; have := HLT.out; omega
      · obtain rfl : k = M.length := by omega
        have HO : Hid (mesB n M = true) := Lib.hid (mesB_yes HM.out HT.out)
        go_wp2
        go_ret
        exact ⟨by rw [HO.out]; rfl, HY.out⟩
end Go.Proofs.YtbffkidkfannhaaGreat

namespace Go.Proofs.YtbffkidkfannhaaGreat
open Go.RowKit Go.Maps
set_option linter.unusedVariables false

def inA (M : List (Nat × Nat)) (p q : Nat) : Bool := decide ((p, q) ∈ M)
def instOf (d : AskD) : Nat × Nat := (d.rp.toNat, (d.no - 1).toNat)
theorem inst_small {n : Int} {d : AskD} (hn : n ≤ 5) (h : instB n d.rp d.no = true) : (instOf d).1 < 5 ∧ (instOf d).2 < 6 ∧ d.rp = ((instOf d).1 : Int) ∧ d.no = ((instOf d).2 : Int) + 1 := by
  unfold instB inB at h
  simp only [Bool.and_eq_true, decide_eq_true_eq] at h
  unfold instOf
  simp only
  omega
theorem ask_inst {n : Int} {K : List AskD} {j : Nat} (h : j < K.length) (ha : askAt n K j = true) : instB n K[j].rp K[j].no = true := by
  rw [askAt_get h] at ha
  unfold ask1 at ha
  simp only [Bool.and_eq_true] at ha
  exact ha.1.1
theorem mem_inst {n : Int} {K : List AskD} {k : Nat} {d : AskD} (hn : n ≤ 5) (hk : k ≤ K.length) (ha : ∀ j, j < k → askAt n K j = true) (hd : instB n d.rp d.no = true) :
    decide (instOf d ∈ (K.take k).map instOf) = (K.take k).any (sameAt d) := by
  obtain ⟨_, _, e1, e2⟩ := inst_small hn hd
  rw [Bool.eq_iff_iff, decide_eq_true_eq, List.mem_map, List.any_eq_true]
  constructor
  · rintro ⟨y, hy, he⟩
    refine ⟨y, hy, ?_⟩
    obtain ⟨j, hj, rfl⟩ := List.mem_iff_getElem.1 hy
    rw [List.length_take] at hj
    rw [List.getElem_take] at he ⊢
    obtain ⟨_, _, f1, f2⟩ := inst_small hn (ask_inst (by omega) (ha j (by omega)))
    unfold sameAt
    rw [e1, e2, f1, f2, he]
    simp
  · rintro ⟨y, hy, he⟩
    refine ⟨y, hy, ?_⟩
    unfold sameAt at he
    simp only [Bool.and_eq_true, beq_iff_eq] at he
    unfold instOf
    rw [he.1, he.2]
theorem MapOf.lacks {D : DataW Value} {S : Nat → Nat → Bool} {f : Nat → Nat → Value} (h : MapOf D S f) {p q : Nat} (hl : p ≤ 1048576 ∧ q ≤ 1048576) (hs : S p q = false) : Maps.has D (kl (p : Int) ((q : Int) + 1)) = false := by
  cases hb : Maps.has D (kl (p : Int) ((q : Int) + 1)) with
  | false => rfl
  | true =>
    obtain ⟨p', q', e, hs'⟩ := h.keys _ hb
    have hl' := h.low p' q' hs'
    by_cases e2 : p = p' ∧ q = q'
    · obtain ⟨rfl, rfl⟩ := e2
      rw [hs] at hs'
      cases hs'
    · exact absurd e (kl_ne hl hl' e2)
theorem zeroBoolV (W : World) : (zeroValue 4).run Tryz.prog W = .ok (.bool false) W := by kernel_rfl
theorem askedAt {W : World} {b n0 : Nat} {D : DataW Value} {B : List (Nat × Nat)} (hm : RowMap W b n0 D) (hd : MapOf D (inA B) (fun _ _ => .bool true)) {p q : Nat} (hl : p < 5 ∧ q < 6) :
    (Instr.lookup 58 (.map (some b)) (.agg #[.int .i64 p, .int .i64 ((q : Int) + 1)]) false).run Tryz.prog W = .ok (.bool (decide ((p, q) ∈ B))) W := by
  obtain ⟨v, ps, hrun, hv⟩ := hm.lookup instKeyed Tryz.underlying58 (zeroBoolV W) (zd := .held _) (zp := []) rfl (keyOf_inst (a := p) (b := (q : Int) + 1) (wf_small (by omega) (by omega)) (wf_small (by omega) (by omega)))
  by_cases h : (p, q) ∈ B
  · have hs : inA B p q = true := decide_eq_true h
    rw [hd.val p q hs] at hv
    simp only [asIs, Option.some.injEq, Prod.mk.injEq, DataW.held.injEq] at hv
    rw [hv.1] at hrun
    rw [decide_eq_true h]
    exact hrun
  · have hs : inA B p q = false := decide_eq_false h
    have hn := hd.lacks (p := p) (q := q) (by omega) hs
    rw [Maps.atKey_of_not_has hn] at hv
    simp only [asIs, Option.some.injEq, Prod.mk.injEq, DataW.held.injEq] at hv
    rw [hv.1] at hrun
    rw [decide_eq_false h]
    exact hrun
/-- The map holds the first k; nothing that was there at first is turned. -/
def AskW (w0 wr : World) (b k : Nat) (B : List (Nat × Nat)) : Prop := (∃ D, RowMap wr b k D ∧ MapOf D (inA B) (fun _ _ => .bool true)) ∧ Ext w0 wr
theorem AskW.step {w0 wr w' : World} {b k : Nat} {B : List (Nat × Nat)} {D : DataW Value} (hd : MapOf D (inA B) (fun _ _ => .bool true)) (hx : Ext w0 wr) (hb : w0.heap.size ≤ b) {p q : Nat} (hl : p < 5 ∧ q < 6)
    (hown : RowMap w' b (k + 1) (D.put (kl (p : Int) ((q : Int) + 1)) (.held (.bool true)))) (hg : wr.grownBy w' (some b)) : AskW w0 w' b (k + 1) (B ++ [(p, q)]) := by
  refine ⟨⟨_, hown, ?_⟩, (Ins.of_grown (lo := w0.heap.size) (hi := b + 1) hg (fun g e => by cases e; exact ⟨hb, Nat.lt_succ_self _⟩)).ext hx (Nat.le_refl _)⟩
  refine (hd.put (by omega) rfl).congr (fun a c => ?_) (fun _ _ _ => rfl)
  unfold inA
  rw [Bool.eq_iff_iff]
  simp

theorem canBe_any (k i f t a : Int) (w : World) : Calls Tryz.prog 72 #[.agg #[.int .i64 k, .int .i64 i, .int .i64 f, .int .i64 t, .int .i64 a]] w (BoolExt (goodB k i f t a && !(k == 0)) w) := by
  obtain ⟨wb, hwb⟩ : ∃ wb, wb = w.alloc (.cells #[.int .i64 k, .int .i64 i, .int .i64 f, .int .i64 t, .int .i64 a] 73) := ⟨_, rfl⟩
  have xb : Ext w wb := by rw [hwb]; exact Ext.alloc1 _ _
  have hb : BoxV wb w.heap.size [.int .i64 k, .int .i64 i, .int .i64 f, .int .i64 t, .int .i64 a] := by rw [hwb]; exact boxV_new w [.int .i64 k, .int .i64 i, .int .i64 f, .int .i64 t, .int .i64 a] _
  have HB := Lib.hid hb
  have XB := Lib.hid xb
  have HWB := Lib.hid hwb
  have c0 := hb.cell 0 _ rfl
  have c1 := hb.cell 1 _ rfl
  have c2 := hb.cell 2 _ rfl
  have c3 := hb.cell 3 _ rfl
  have c4 := hb.cell 4 _ rfl
  rw [hwb] at c0 c1 c2 c3 c4
  clear hb xb hwb
  go_enter Tryz.func72, Tryz.ntmps72
  go_wp2_with fail
  rw [← HWB.out]
  refine (implGood_any _ _ _ _ _ _).mono ?_
  rintro e w1 ⟨rfl, x1⟩
  have hx := XB.out.trans x1
  clear c0 c1 c2 c3 c4
  have c0 := (HB.out.ext x1).cell 0 _ rfl
  clear x1
  cases h1 : goodB k i f t a with
  | false =>
    go_wp2
    go_ret
    exact ⟨by rw [h1]; rfl, hx⟩
  | true =>
    cases h2 : (k == 0) with
    | true =>
      have h2' : (k != 0) = false := by simpa using h2
      have H : Hid ((goodB k i f t a && !(k == 0)) = false) := Lib.hid (by rw [h1, h2]; rfl)
      go_wp2
      go_ret
      exact ⟨by rw [H.out]; rfl, hx⟩
    | false =>
      have h2' : (k != 0) = true := by simpa using h2
      have H : Hid ((goodB k i f t a && !(k == 0)) = true) := Lib.hid (by rw [h1, h2]; rfl)
      go_wp2
      go_ret
      exact ⟨by rw [H.out]; rfl, hx⟩

set_option maxHeartbeats 8000000 in
set_option maxRecDepth 100000 in
theorem areAsked_any (n : Int) (v : Value) (K : List AskD) (w : World) (hv : Askz w v K) (hn : isGrp n = true) :
    Calls Tryz.prog 40 #[.int .i64 n, v] w (BoolExt (askB n K) w) := by
  obtain ⟨h3, h5⟩ : 3 ≤ n ∧ n ≤ 5 := by rcases isGrp_of hn with rfl | rfl <;> omega
  obtain ⟨av, cv, rfl, hlv, _, hcv⟩ := hv
  unfold maxLen at hlv
  have HCV := Lib.hid hcv
  have HN := Lib.hid hn
  obtain ⟨b, hb⟩ : ∃ b, b = w.heap.size := ⟨_, rfl⟩
  have hA0 : AskW w (w.alloc (.map #[] 0)) b 0 ((K.take 0).map instOf) := ⟨⟨_, by rw [hb]; exact World.ownsMap_made _ _ _ _, (MapOf.empty (fun _ _ => .bool true)).congr (fun p q => by simp [inA]) (fun _ _ h => by cases h)⟩, Ext.alloc1 _ _⟩
  have HA0 := Lib.hid hA0
  have HBW : Hid (w.heap.size ≤ b) := Lib.hid (by rw [hb]; exact Nat.le_refl _)
  have HBQ := Lib.hid hb
  clear hcv hn hA0 hb
  have hmm := @run_makeMap Tryz.prog
  go_enter Tryz.func40, Tryz.ntmps40
  go_wp2
  rw [← HBQ.out]
  clear hmm
  go_loopw [12] (fun i wr => ∃ k : Nat, k ≤ K.length ∧ i = .int .i64 k ∧ Hid (∀ j, j < k → askAt n K j = true) ∧ Hid (AskW w wr b k ((K.take k).map instOf))) (fun i _ => K.length - (intOf i).toNat)
  case atStart => exact ⟨0, Nat.zero_le _, rfl, Lib.hid (fun j h => by omega), HA0⟩
  case round =>
    clear HA0
    obtain ⟨k, hk, rfl, HT, HP⟩ := hrel
    by_cases hlt : k < K.length
    · obtain ⟨bl, off, rfl, dv⟩ := HCV.out (by omega)
      obtain ⟨d, hd⟩ : ∃ d, d = K[k] := ⟨_, rfl⟩
      have hy := dv k hlt
      rw [← hd] at hy
      obtain ⟨a0, a1, a2, a3, a4, a5, a6⟩ := askIn_cells (hy.ext HP.out.2)
      obtain ⟨w2, hw2⟩ : ∃ w2, w2 = wr.alloc (.cells #[.int .i64 d.rp, .int .i64 d.no, .int .i64 d.k, .int .i64 d.i, .int .i64 d.f, .int .i64 d.t, .int .i64 d.a] 106) := ⟨_, rfl⟩
      obtain ⟨w3, hw3⟩ : ∃ w3, w3 = w2.alloc (.cells #[.int .i64 d.rp, .int .i64 d.no] 112) := ⟨_, rfl⟩
      have x2 : Ext wr w2 := by rw [hw2]; exact Ext.alloc1 _ _
      have x3 : Ext w2 w3 := by rw [hw3]; exact Ext.alloc1 _ _
      have hz2 : w2.heap.size = wr.heap.size + 1 := by rw [hw2]; simp
      have HB : Hid (BoxV w3 wr.heap.size (askVs d)) := Lib.hid (by refine BoxV.ext ?_ x3; rw [hw2]; exact ask_box wr _ d)
      have HI : Hid (BoxV w3 (wr.heap.size + 1) [.int .i64 d.rp, .int .i64 d.no]) := Lib.hid (by rw [← hz2, hw3]; exact boxV_new w2 [.int .i64 d.rp, .int .i64 d.no] _)
      have HAT : Hid (askAt n K k = (ask1 n d && !((K.take k).any (sameAt d)))) := Lib.hid (by rw [hd]; exact askAt_get hlt)
      have HD := Lib.hid hd
      have HLT := Lib.hid hlt
      obtain ⟨⟨D, hm, hmo⟩, hx⟩ := HP.out
      have HM := Lib.hid (hm.ext (x2.trans x3))
      have HMO := Lib.hid hmo
      have X3 := Lib.hid (hx.trans (x2.trans x3))
      have HW3 := Lib.hid (hw3.trans (by rw [hw2]))
      clear dv hy hd hw2 hw3 x2 x3 hz2 hm hmo hx HP
      go_wp2_with fail
      rw [← HW3.out]
      refine (isInstance_any n d.rp d.no _ HN.out).mono ?_
      rintro e w4 ⟨rfl, rfl⟩
      clear a0 a1 a2 a3 a4 a5 a6
      as_aux_lemma =>
        cases hc0 : instB n d.rp d.no with
        | false =>
          have HO : Hid (askB n K = false) := Lib.hid (rangeAll_no HLT.out (by rw [HAT.out]; unfold ask1; rw [hc0]; rfl))
          go_wp2
          go_ret
          exact ⟨by rw [HO.out]; rfl, X3.out⟩
        | true =>
          obtain ⟨p, q, hl, ep, eq⟩ : ∃ p q : Nat, (p < 5 ∧ q < 6) ∧ (p, q) = instOf d ∧ (d.rp = (p : Int) ∧ d.no = (q : Int) + 1) := by
            obtain ⟨h1, h2, h3, h4⟩ := inst_small h5 hc0
            exact ⟨(instOf d).1, (instOf d).2, ⟨h1, h2⟩, rfl, h3, h4⟩
          have hlk := askedAt HM.out HMO.out hl
          rw [ep, mem_inst h5 (Nat.le_of_lt HLT.out) HT.out hc0] at hlk
          have HC0 := Lib.hid hc0
          have HEP := Lib.hid ep
          have HEQ := Lib.hid eq
          have HL := Lib.hid hl
          rw [← eq.1, ← eq.2] at hlk
          clear hc0 ep eq hl
          have i0 := HI.out.cell 0 _ rfl
          have i1 := HI.out.cell 1 _ rfl
          obtain ⟨a0, a1, a2, a3, a4, a5, a6⟩ := ask_cells HB.out
          cases hmet : (K.take k).any (sameAt d) with
          | true =>
            rw [hmet] at hlk
            have HO : Hid (askB n K = false) := Lib.hid (rangeAll_no HLT.out (by rw [HAT.out, hmet]; simp))
            go_wp2
            go_ret
            exact ⟨by rw [HO.out]; rfl, X3.out⟩
          | false =>
            rw [hmet] at hlk
            have HMET := Lib.hid hmet
            clear hmet
            go_wp2_with fail
            refine (canBe_any _ _ _ _ _ _).mono ?_
            rintro e w5 ⟨rfl, x5⟩
            have HI5 := Lib.hid (HI.out.ext x5)
            have HM5 := Lib.hid (HM.out.ext x5)
            have X5 := Lib.hid (X3.out.trans x5)
            clear x5 a0 a1 a2 a3 a4 a5 a6 i0 i1 hlk
            as_aux_lemma =>
              cases hc1 : (goodB d.k d.i d.f d.t d.a && !(d.k == 0)) with
              | false =>
                have HO : Hid (askB n K = false) := Lib.hid (rangeAll_no HLT.out (by rw [HAT.out]; unfold ask1; rw [hc1, Bool.and_false]; rfl))
                go_wp2
                go_ret
                exact ⟨by rw [HO.out]; rfl, X5.out⟩
              | true =>
                have HT1 : Hid (∀ j, j < k + 1 → askAt n K j = true) := Lib.hid (upTo_succ HT.out (by rw [HAT.out]; unfold ask1; rw [HC0.out, hc1, HMET.out]; rfl))
                clear hc1
                have i0 := HI5.out.cell 0 _ rfl
                have i1 := HI5.out.cell 1 _ rfl
                have hwr : wf64 d.rp := by have := HEQ.out.1; have := HL.out; exact wf_small (by omega) (by omega)
                have hwn : wf64 d.no := by have := HEQ.out.2; have := HL.out; exact wf_small (by omega) (by omega)
                go_wp2_with (at_mapUpdate; refine wpList_mapUpdate_own _ rfl _ _ _ 58 rfl 112 4 instKeyed Tryz.underlying58 asIs b k D rfl HM5.out (by unfold maxLen; have := HLT.out; omega) _ _ (kl d.rp d.no) rfl rfl (keyOf_inst hwr hwn) (.held (.bool true)) [] rfl ?_)
                intro w6 hown hgrow
                rw [HEQ.out.1, HEQ.out.2] at hown
                have HN1 : Hid (AskW w w6 b (k + 1) ((K.take (k + 1)).map instOf)) := Lib.hid (by
                  rw [List.take_succ_eq_append_getElem HLT.out, List.map_append, List.map_singleton, ← HD.out, ← HEP.out]
                  exact AskW.step HMO.out X5.out HBW.out HL.out hown hgrow)
                clear hown hgrow i0 i1 hwr hwn
                go_wp2
                go_roundw
                case rel => exact ⟨k + 1, by have := HLT.out; omega, by go_num, HT1, HN1⟩
                case measure => simp [intOf]; have := HLT.out; omega
    · obtain rfl : k = K.length := by omega
      have HO : Hid (askB n K = true) := Lib.hid (rangeAll_yes HT.out)
      have hx := HP.out.2
      go_wp2
      go_ret
      exact ⟨by rw [HO.out]; rfl, hx⟩
end Go.Proofs.YtbffkidkfannhaaGreat

namespace Go.Proofs.YtbffkidkfannhaaGreat
open Go.RowKit
set_option linter.unusedVariables false

set_option maxHeartbeats 4000000 in
theorem implGoodNet_any (u v z : Value) (R : List RepD) (M : List MsgD) (K : List AskD) (w : World) (hn : NetL w u v z R M K) (hr : bulkRep R ≤ 549755813888) (hm : bulkMes M ≤ 549755813888) :
    Calls Tryz.prog 14 #[.agg #[u, v, z]] w (BoolExt (goodNet R M K) w) := by
  obtain ⟨wb, hwb⟩ : ∃ wb, wb = w.alloc (.cells #[u, v, z] 35) := ⟨_, rfl⟩
  have x0 : Ext w wb := by rw [hwb]; exact Ext.alloc1 _ _
  have HB := Lib.hid (show BoxV wb w.heap.size [u, v, z] by rw [hwb]; exact boxV_new w [u, v, z] 35)
  have HN := Lib.hid (hn.ext x0)
  have HX0 := Lib.hid x0
  have HW := Lib.hid hwb
  have HR := Lib.hid hr
  have HM := Lib.hid hm
  obtain ⟨⟨au, cu, rfl, _, _, _⟩, _, _⟩ := hn
  clear x0 hr hm
  have a0 := HB.out.cell 0 _ rfl
  have a1 := HB.out.cell 1 _ rfl
  have a2 := HB.out.cell 2 _ rfl
  rw [hwb] at a0 a1 a2
  clear hwb
  go_enter Tryz.func14, Tryz.ntmps14
  go_wp2_with fail
  rw [← HW.out]
  refine (implIsGroup_any _ _).mono ?_
  rintro e w1 ⟨rfl, rfl⟩
  clear a0 a1 a2
  cases hg : isGrp R.length with
  | false =>
    have HO : Hid (goodNet R M K = false) := Lib.hid (goodNet_no0 hg)
    go_wp2
    go_ret
    exact ⟨by rw [HO.out]; rfl, HX0.out⟩
  | true =>
    have HG := Lib.hid hg
    clear hg
    have a0 := HB.out.cell 0 _ rfl
    have a1 := HB.out.cell 1 _ rfl
    have a2 := HB.out.cell 2 _ rfl
    go_wp2_with fail
    refine (areReps_any R.length _ R _ HN.out.i1 HR.out).mono ?_
    rintro e w2 ⟨rfl, x2⟩
    have X2 := Lib.hid x2
    clear x2 a0 a1 a2
    cases h1 : repsB R.length R with
    | false =>
      have HO : Hid (goodNet R M K = false) := Lib.hid (goodNet_no1 h1)
      go_wp2
      go_ret
      exact ⟨by rw [HO.out]; rfl, HX0.out.trans X2.out⟩
    | true =>
      have H1 := Lib.hid h1
      clear h1
      have a0 := (HB.out.ext X2.out).cell 0 _ rfl
      have a1 := (HB.out.ext X2.out).cell 1 _ rfl
      have a2 := (HB.out.ext X2.out).cell 2 _ rfl
      go_wp2_with fail
      refine (areMsgs_any R.length _ M _ (HN.out.i2.ext X2.out) HM.out).mono ?_
      rintro e w3 ⟨rfl, x3⟩
      have X3 := Lib.hid (X2.out.trans x3)
      clear x3 a0 a1 a2
      cases h2 : mesB R.length M with
      | false =>
        have HO : Hid (goodNet R M K = false) := Lib.hid (goodNet_no2 h2)
        go_wp2
        go_ret
        exact ⟨by rw [HO.out]; rfl, HX0.out.trans X3.out⟩
      | true =>
        have H2 := Lib.hid h2
        clear h2
        have a0 := (HB.out.ext X3.out).cell 0 _ rfl
        have a1 := (HB.out.ext X3.out).cell 1 _ rfl
        have a2 := (HB.out.ext X3.out).cell 2 _ rfl
        obtain ⟨c, hc⟩ : ∃ c, c = askB R.length K := ⟨_, rfl⟩
        have HO : Hid (goodNet R M K = c) := Lib.hid (by unfold goodNet; rw [HG.out, H1.out, H2.out, hc]; rfl)
        have HC := Lib.hid hc
        clear hc
        go_wp2_with fail
        have hcc := areAsked_any R.length z K _ (HN.out.i3.ext X3.out) HG.out
        rw [← HC.out] at hcc
        refine hcc.mono ?_
        rintro e w4 ⟨rfl, x4⟩
        have X4 := Lib.hid (X3.out.trans x4)
        clear x4 hcc a0 a1 a2
        go_wp2
        go_ret
        exact ⟨by rw [HO.out]; rfl, HX0.out.trans X4.out⟩
end Go.Proofs.YtbffkidkfannhaaGreat

namespace Go.Proofs.YtbffkidkfannhaaGreat
open Go.RowKit
set_option linter.unusedVariables false

theorem Tryz.infoRep : ((Tryz.prog.info? 70).map (fun i => (i.zero, i.size))) = some (some (.agg #[.int .i64 0, .int .i64 0, .slice none 0 0, .slice none 0 0]), 4) := by kernel_rfl
theorem rep_parts : ∃ i, Tryz.prog.info? 70 = some i ∧ i.zero = some (.agg #[.int .i64 0, .int .i64 0, .slice none 0 0, .slice none 0 0]) ∧ i.size = 4 := by
  have h := Tryz.infoRep
  cases hi : Tryz.prog.info? 70 with
  | none => rw [hi] at h; cases h
  | some i =>
    rw [hi] at h
    simp only [Option.map_some, Option.some.injEq, Prod.mk.injEq] at h
    exact ⟨i, rfl, h.1, h.2⟩
theorem rep_bytes : ∀ i, Tryz.prog.info? 70 = some i → i.bytes ≤ 256 := by
  intro i hi
  have h : ((Tryz.prog.info? 70).map (fun i => decide (i.bytes ≤ 256))) = some true := by kernel_rfl
  rw [hi] at h
  simpa using h
theorem repz_of {w : World} {g n : Nat} {xs : List Value} {L : List RepD} {cut : Nat → Nat} (hb : BoxV w g xs) (hn : n = L.length) (hm : n ≤ maxLen) (hl : xs.length = L.length * 4) (hk : CutOk (g + 1) n w.heap.size cut) (h : RepsTo cut w xs L n) : RepzM g w.heap.size w (.slice (some ⟨g, 0, none⟩) n n) L := by
  subst hn
  exact ⟨g, xs, cut, Nat.le_refl _, rfl, hm, hb, hl, hk, h⟩

set_option maxHeartbeats 8000000 in
set_option maxRecDepth 100000 in
theorem toRepS_any (u : Value) (L : List RepD) (w : World) (hu : Repz w u L) (hs : bulkRep L ≤ 549755813888) :
    Calls Tryz.prog 25 #[u] w (NewRepS L w) := by
  obtain ⟨au, cu, rfl, hlu, _, hcu⟩ := hu
  unfold maxLen at hlu
  have hL : L.length ≤ 549755813888 := by unfold bulkRep at hs; omega
  obtain ⟨i0, hi, hz0, hz1⟩ := rep_parts
  have hz2 := rep_bytes i0 hi
  have HS := Lib.hid hs
  clear hs
  go_enter Tryz.func25, Tryz.ntmps25
  go_wp2_with (at_make; refine wpList_make_full _ rfl _ _ 31 rfl w.heap.size 70 i0 _ 4 Tryz.underlying31 hi hz0 hz1 _ _ _ _ L.length rfl rfl rfl rfl ?c1 ?c2 ?c3 ?_)
  case c1 =>
    have hmul := Nat.mul_le_mul hL hz2
    first
    | exact Nat.le_trans hmul (by decide)
    | (rw [Nat.mul_comm]; exact Nat.le_trans hmul (by decide))
  case c2 => unfold maxLen; omega
  case c3 => simp
  intro w1 ho1 hg1
  have hx1 : Ext w w1 := ext_of_grown hg1
  have hsz : w.heap.size < w1.heap.size := by
    rcases ho1.2 with ⟨h, _⟩ | ⟨g, cap, cur, h, hb, hg, _⟩
    · cases h
    · simp only [Value.slice.injEq, Option.some.injEq, Addr.mk.injEq, and_true, true_and] at h
      obtain ⟨rfl, _⟩ := h
      exact (Array.getElem?_eq_some_iff.1 hg).1
  obtain ⟨xs0, hxs⟩ : ∃ xs, xs = (madeCells #[.int .i64 0, .int .i64 0, .slice none 0 0, .slice none 0 0] (L.length * 4)).toList := ⟨_, rfl⟩
  rw [← hxs] at ho1
  have hlx : xs0.length = L.length * 4 := ho1.1
  have hbx : BoxV w1 w.heap.size xs0 := ⟨fun j v hj => by
    rw [ho1.cellAt _ (by have := (List.getElem?_eq_some_iff.1 hj).1; omega)]; exact hj, fun j _ => ho1.frozenAt j, hsz⟩
  clear hg1 hz0 hz1 hz2 hi hxs ho1 hsz
  have HBX := Lib.hid hbx
  clear hbx
  go_wp2
  go_loopw [4] (fun i wr => ∃ (k : Nat) (xs : List Value) (cut : Nat → Nat), k ≤ L.length ∧ i = .int .i64 k ∧ Hid (BoxV wr w.heap.size xs) ∧ xs.length = L.length * 4 ∧ Hid (CutOk (w.heap.size + 1) k wr.heap.size cut) ∧ Hid (RepsTo cut wr xs L k) ∧ Ext w wr) (fun i _ => L.length - (intOf i).toNat)
  case atStart => exact ⟨0, xs0, _, Nat.zero_le _, rfl, HBX, hlx, Lib.hid (CutOk.start HBX.out.lt (Nat.le_refl _)), Lib.hid (fun j _ h => by omega), hx1⟩
  case round =>
    clear hx1 HBX hlx
    obtain ⟨k, xs, cut, hk, rfl, hB, hl, hC, hT, hx⟩ := hrel
    by_cases hlt : k < L.length
    · obtain ⟨bu, ou, rfl, du⟩ := hcu (by omega)
      obtain ⟨y1, y2, hy, iy⟩ := du k hlt
      obtain ⟨d, hd⟩ : ∃ d, d = L[k] := ⟨_, rfl⟩
      have hbk : bulk1Rep d ≤ 549755813888 := by rw [hd]; have := bulkRep_at hlt; have := HS.out; omega
      rw [← hd] at hy iy
      have hy := hy.ext hx
      have IY := Lib.hid (iy.ext hx)
      have HD := Lib.hid hd
      obtain ⟨c0, c1, c2, c3⟩ := repIn_cells hy
      clear hcu du hy iy hd
      go_wp2_with fail
      refine (toReplica_new d.me d.n y1 y2 d.T d.L _ IY.out.i1 IY.out.i2 (by unfold bulk1Rep at hbk; omega) (by unfold bulk1Rep at hbk; omega)).mono ?_
      rintro e w2 ⟨z1, z2, rfl, gE, x2⟩
      have f2 : RepE wr.heap.size w2.heap.size w2 d z1 z2 := gE
      clear c0 c1 c2 c3
      have hb2 := hB.out.ext x2
      have HT2 := Lib.hid (hT.out.kept hC.out (Stood.of_ext x2 (Nat.le_refl _)))
      have HC2 := Lib.hid (hC.out.more (Nat.le_refl _) x2.size)
      have HC3 := Lib.hid (hC.out.to x2.size)
      have F2 := Lib.hid (f2.more hC.out.hi (Nat.le_refl _))
      have HB2 := Lib.hid hb2
      obtain ⟨o0, g0⟩ : ∃ v, w2.cell? ⟨w.heap.size, k * 4, none⟩ = some v := ⟨_, hb2.cell (k * 4) _ (List.getElem?_eq_getElem (by omega))⟩
      have n0 := hb2.free (k * 4) (by omega)
      obtain ⟨o1, g1⟩ : ∃ v, w2.cell? ⟨w.heap.size, k * 4 + 1, none⟩ = some v := ⟨_, hb2.cell (k * 4 + 1) _ (List.getElem?_eq_getElem (by omega))⟩
      have n1 := hb2.free (k * 4 + 1) (by omega)
      obtain ⟨o2, g2⟩ : ∃ v, w2.cell? ⟨w.heap.size, k * 4 + 2, none⟩ = some v := ⟨_, hb2.cell (k * 4 + 2) _ (List.getElem?_eq_getElem (by omega))⟩
      have n2 := hb2.free (k * 4 + 2) (by omega)
      obtain ⟨o3, g3⟩ : ∃ v, w2.cell? ⟨w.heap.size, k * 4 + 3, none⟩ = some v := ⟨_, hb2.cell (k * 4 + 3) _ (List.getElem?_eq_getElem (by omega))⟩
      have n3 := hb2.free (k * 4 + 3) (by omega)
      obtain ⟨a1, k1, e1⟩ : ∃ a c, z1 = .slice a d.T.length c := by obtain ⟨_, _, _, h, _⟩ := gE; exact h.form
      obtain ⟨a2, k2, e2⟩ : ∃ a c, z2 = .slice a d.L.length c := by obtain ⟨_, _, _, _, h⟩ := gE; exact h.form
      have hxx := hx.trans x2
      clear f2 gE hC hb2 hx x2 hB hT
      subst e1 e2
      go_wp2
      go_roundw
      case rel =>
        refine ⟨k + 1, putL xs (k * 4) (repVs d (.slice a1 d.T.length k1) (.slice a2 d.L.length k2)), cutTo cut k w2.heap.size, by omega, by go_num, Lib.hid ?_, by rw [putL_len]; exact hl, Lib.hid ?_, Lib.hid ?_, ?_⟩
        · rw [← setCells_rep]
          exact boxV_puts _ _ _ _ HB2.out (by rw [repVs_len]; omega)
        · rw [← setCells_rep]
          exact HC3.out.more (Nat.le_refl _) (ins_puts (lo := w.heap.size) (hi := w.heap.size + 1) (Nat.le_refl _) (Nat.lt_succ_self _) _ _ _).size
        · rw [← setCells_rep]
          have hd := HD.out
          subst hd
          exact HT2.out.put HC2.out hlt hl (Nat.le_refl _) F2.out
        · rw [← setCells_rep]
          exact (ins_puts (lo := w.heap.size) (hi := w.heap.size + 1) (Nat.le_refl _) (Nat.lt_succ_self _) _ _ _).ext hxx (Nat.le_refl _)
      case measure => simp [intOf]; omega
    · obtain rfl : k = L.length := by omega
      go_wp2
      go_ret
      exact ⟨_, rfl, repz_of hB.out rfl (by unfold maxLen; omega) hl hC.out hT.out, hx⟩
end Go.Proofs.YtbffkidkfannhaaGreat

namespace Go.Proofs.YtbffkidkfannhaaGreat
open Go.RowKit
set_option linter.unusedVariables false

theorem Tryz.infoMes : ((Tryz.prog.info? 77).map (fun i => (i.zero, i.size))) = some (some (.agg #[.int .i64 0, .int .i64 0, .int .i64 0, .int .i64 0, .int .i64 0, .int .i64 0, .int .i64 0, .int .i64 0, .int .i64 0, .int .i64 0, .int .i64 0, .int .i64 0, .int .i64 0, .int .i64 0, .slice none 0 0]), 15) := by kernel_rfl
theorem mes_parts : ∃ i, Tryz.prog.info? 77 = some i ∧ i.zero = some (.agg #[.int .i64 0, .int .i64 0, .int .i64 0, .int .i64 0, .int .i64 0, .int .i64 0, .int .i64 0, .int .i64 0, .int .i64 0, .int .i64 0, .int .i64 0, .int .i64 0, .int .i64 0, .int .i64 0, .slice none 0 0]) ∧ i.size = 15 := by
  have h := Tryz.infoMes
  cases hi : Tryz.prog.info? 77 with
  | none => rw [hi] at h; cases h
  | some i =>
    rw [hi] at h
    simp only [Option.map_some, Option.some.injEq, Prod.mk.injEq] at h
    exact ⟨i, rfl, h.1, h.2⟩
theorem mes_bytes : ∀ i, Tryz.prog.info? 77 = some i → i.bytes ≤ 256 := by
  intro i hi
  have h : ((Tryz.prog.info? 77).map (fun i => decide (i.bytes ≤ 256))) = some true := by kernel_rfl
  rw [hi] at h
  simpa using h
theorem mesz_of {w : World} {g n : Nat} {xs : List Value} {L : List MsgD} {cut : Nat → Nat} (hb : BoxV w g xs) (hn : n = L.length) (hm : n ≤ maxLen) (hl : xs.length = L.length * 15) (hk : CutOk (g + 1) n w.heap.size cut) (h : MessTo cut w xs L n) : MeszM g w.heap.size w (.slice (some ⟨g, 0, none⟩) n n) L := by
  subst hn
  exact ⟨g, xs, cut, Nat.le_refl _, rfl, hm, hb, hl, hk, h⟩

set_option maxHeartbeats 8000000 in
set_option maxRecDepth 100000 in
theorem toMesS_any (u : Value) (L : List MsgD) (w : World) (hu : Mesz w u L) (hs : bulkMes L ≤ 549755813888) :
    Calls Tryz.prog 26 #[u] w (NewMesS L w) := by
  obtain ⟨au, cu, rfl, hlu, _, hcu⟩ := hu
  unfold maxLen at hlu
  have hL : L.length ≤ 549755813888 := by unfold bulkMes at hs; omega
  obtain ⟨i0, hi, hz0, hz1⟩ := mes_parts
  have hz2 := mes_bytes i0 hi
  have HS := Lib.hid hs
  clear hs
  go_enter Tryz.func26, Tryz.ntmps26
  go_wp2_with (at_make; refine wpList_make_full _ rfl _ _ 32 rfl w.heap.size 77 i0 _ 15 Tryz.underlying32 hi hz0 hz1 _ _ _ _ L.length rfl rfl rfl rfl ?c1 ?c2 ?c3 ?_)
  case c1 =>
    have hmul := Nat.mul_le_mul hL hz2
    first
    | exact Nat.le_trans hmul (by decide)
    | (rw [Nat.mul_comm]; exact Nat.le_trans hmul (by decide))
  case c2 => unfold maxLen; omega
  case c3 => simp
  intro w1 ho1 hg1
  have hx1 : Ext w w1 := ext_of_grown hg1
  have hsz : w.heap.size < w1.heap.size := by
    rcases ho1.2 with ⟨h, _⟩ | ⟨g, cap, cur, h, hb, hg, _⟩
    · cases h
    · simp only [Value.slice.injEq, Option.some.injEq, Addr.mk.injEq, and_true, true_and] at h
      obtain ⟨rfl, _⟩ := h
      exact (Array.getElem?_eq_some_iff.1 hg).1
  obtain ⟨xs0, hxs⟩ : ∃ xs, xs = (madeCells #[.int .i64 0, .int .i64 0, .int .i64 0, .int .i64 0, .int .i64 0, .int .i64 0, .int .i64 0, .int .i64 0, .int .i64 0, .int .i64 0, .int .i64 0, .int .i64 0, .int .i64 0, .int .i64 0, .slice none 0 0] (L.length * 15)).toList := ⟨_, rfl⟩
  rw [← hxs] at ho1
  have hlx : xs0.length = L.length * 15 := ho1.1
  have hbx : BoxV w1 w.heap.size xs0 := ⟨fun j v hj => by
    rw [ho1.cellAt _ (by have := (List.getElem?_eq_some_iff.1 hj).1; omega)]; exact hj, fun j _ => ho1.frozenAt j, hsz⟩
  clear hg1 hz0 hz1 hz2 hi hxs ho1 hsz
  have HBX := Lib.hid hbx
  clear hbx
  go_wp2
  go_loopw [4] (fun i wr => ∃ (k : Nat) (xs : List Value) (cut : Nat → Nat), k ≤ L.length ∧ i = .int .i64 k ∧ Hid (BoxV wr w.heap.size xs) ∧ xs.length = L.length * 15 ∧ Hid (CutOk (w.heap.size + 1) k wr.heap.size cut) ∧ Hid (MessTo cut wr xs L k) ∧ Ext w wr) (fun i _ => L.length - (intOf i).toNat)
  case atStart => exact ⟨0, xs0, _, Nat.zero_le _, rfl, HBX, hlx, Lib.hid (CutOk.start HBX.out.lt (Nat.le_refl _)), Lib.hid (fun j _ h => by omega), hx1⟩
  case round =>
    clear hx1 HBX hlx
    obtain ⟨k, xs, cut, hk, rfl, hB, hl, hC, hT, hx⟩ := hrel
    by_cases hlt : k < L.length
    · obtain ⟨bu, ou, rfl, du⟩ := hcu (by omega)
      obtain ⟨y1, hy, iy⟩ := du k hlt
      obtain ⟨d, hd⟩ : ∃ d, d = L[k] := ⟨_, rfl⟩
      have hbk : bulk1Mes d ≤ 35184372088831 := by rw [hd]; have := bulkMes_at hlt; have := HS.out; omega
      rw [← hd] at hy iy
      have hy := hy.ext hx
      have IY := Lib.hid (iy.ext hx)
      have HD := Lib.hid hd
      obtain ⟨c0, c1, c2, c3, c4, c5, c6, c7, c8, c9, c10, c11, c12, c13, c14⟩ := mesIn_cells hy
      clear hcu du hy iy hd
      go_wp2_with fail
      refine (toMsg_any d y1 _ IY.out.i1 (by unfold bulk1Mes at hbk; omega)).mono ?_
      rintro e w2 ⟨z1, rfl, gE, x2⟩
      have f2 : MesE wr.heap.size w2.heap.size w2 d z1 := ⟨gE, gE.und⟩
      clear c0 c1 c2 c3 c4 c5 c6 c7 c8 c9 c10 c11 c12 c13 c14
      have hb2 := hB.out.ext x2
      have HT2 := Lib.hid (hT.out.kept hC.out (Stood.of_ext x2 (Nat.le_refl _)))
      have HC2 := Lib.hid (hC.out.more (Nat.le_refl _) x2.size)
      have HC3 := Lib.hid (hC.out.to x2.size)
      have F2 := Lib.hid (f2.more hC.out.hi (Nat.le_refl _))
      have HB2 := Lib.hid hb2
      obtain ⟨o0, g0⟩ : ∃ v, w2.cell? ⟨w.heap.size, k * 15, none⟩ = some v := ⟨_, hb2.cell (k * 15) _ (List.getElem?_eq_getElem (by omega))⟩
      have n0 := hb2.free (k * 15) (by omega)
      obtain ⟨o1, g1⟩ : ∃ v, w2.cell? ⟨w.heap.size, k * 15 + 1, none⟩ = some v := ⟨_, hb2.cell (k * 15 + 1) _ (List.getElem?_eq_getElem (by omega))⟩
      have n1 := hb2.free (k * 15 + 1) (by omega)
      obtain ⟨o2, g2⟩ : ∃ v, w2.cell? ⟨w.heap.size, k * 15 + 2, none⟩ = some v := ⟨_, hb2.cell (k * 15 + 2) _ (List.getElem?_eq_getElem (by omega))⟩
      have n2 := hb2.free (k * 15 + 2) (by omega)
      obtain ⟨o3, g3⟩ : ∃ v, w2.cell? ⟨w.heap.size, k * 15 + 3, none⟩ = some v := ⟨_, hb2.cell (k * 15 + 3) _ (List.getElem?_eq_getElem (by omega))⟩
      have n3 := hb2.free (k * 15 + 3) (by omega)
      obtain ⟨o4, g4⟩ : ∃ v, w2.cell? ⟨w.heap.size, k * 15 + 4, none⟩ = some v := ⟨_, hb2.cell (k * 15 + 4) _ (List.getElem?_eq_getElem (by omega))⟩
      have n4 := hb2.free (k * 15 + 4) (by omega)
      obtain ⟨o5, g5⟩ : ∃ v, w2.cell? ⟨w.heap.size, k * 15 + 5, none⟩ = some v := ⟨_, hb2.cell (k * 15 + 5) _ (List.getElem?_eq_getElem (by omega))⟩
      have n5 := hb2.free (k * 15 + 5) (by omega)
      obtain ⟨o6, g6⟩ : ∃ v, w2.cell? ⟨w.heap.size, k * 15 + 6, none⟩ = some v := ⟨_, hb2.cell (k * 15 + 6) _ (List.getElem?_eq_getElem (by omega))⟩
      have n6 := hb2.free (k * 15 + 6) (by omega)
      obtain ⟨o7, g7⟩ : ∃ v, w2.cell? ⟨w.heap.size, k * 15 + 7, none⟩ = some v := ⟨_, hb2.cell (k * 15 + 7) _ (List.getElem?_eq_getElem (by omega))⟩
      have n7 := hb2.free (k * 15 + 7) (by omega)
      obtain ⟨o8, g8⟩ : ∃ v, w2.cell? ⟨w.heap.size, k * 15 + 8, none⟩ = some v := ⟨_, hb2.cell (k * 15 + 8) _ (List.getElem?_eq_getElem (by omega))⟩
      have n8 := hb2.free (k * 15 + 8) (by omega)
      obtain ⟨o9, g9⟩ : ∃ v, w2.cell? ⟨w.heap.size, k * 15 + 9, none⟩ = some v := ⟨_, hb2.cell (k * 15 + 9) _ (List.getElem?_eq_getElem (by omega))⟩
      have n9 := hb2.free (k * 15 + 9) (by omega)
      obtain ⟨o10, g10⟩ : ∃ v, w2.cell? ⟨w.heap.size, k * 15 + 10, none⟩ = some v := ⟨_, hb2.cell (k * 15 + 10) _ (List.getElem?_eq_getElem (by omega))⟩
      have n10 := hb2.free (k * 15 + 10) (by omega)
      obtain ⟨o11, g11⟩ : ∃ v, w2.cell? ⟨w.heap.size, k * 15 + 11, none⟩ = some v := ⟨_, hb2.cell (k * 15 + 11) _ (List.getElem?_eq_getElem (by omega))⟩
      have n11 := hb2.free (k * 15 + 11) (by omega)
      obtain ⟨o12, g12⟩ : ∃ v, w2.cell? ⟨w.heap.size, k * 15 + 12, none⟩ = some v := ⟨_, hb2.cell (k * 15 + 12) _ (List.getElem?_eq_getElem (by omega))⟩
      have n12 := hb2.free (k * 15 + 12) (by omega)
      obtain ⟨o13, g13⟩ : ∃ v, w2.cell? ⟨w.heap.size, k * 15 + 13, none⟩ = some v := ⟨_, hb2.cell (k * 15 + 13) _ (List.getElem?_eq_getElem (by omega))⟩
      have n13 := hb2.free (k * 15 + 13) (by omega)
      obtain ⟨o14, g14⟩ : ∃ v, w2.cell? ⟨w.heap.size, k * 15 + 14, none⟩ = some v := ⟨_, hb2.cell (k * 15 + 14) _ (List.getElem?_eq_getElem (by omega))⟩
      have n14 := hb2.free (k * 15 + 14) (by omega)
      obtain ⟨a1, k1, e1⟩ := gE.form
      have hxx := hx.trans x2
      clear f2 gE hC hb2 hx x2 hB hT
      subst e1
      go_wp2
      go_roundw
      case rel =>
        refine ⟨k + 1, putL xs (k * 15) (mesVs d (.slice a1 d.l.length k1)), cutTo cut k w2.heap.size, by omega, by go_num, Lib.hid ?_, by rw [putL_len]; exact hl, Lib.hid ?_, Lib.hid ?_, ?_⟩
        · rw [← setCells_mes]
          exact boxV_puts _ _ _ _ HB2.out (by rw [mesVs_len]; omega)
        · rw [← setCells_mes]
          exact HC3.out.more (Nat.le_refl _) (ins_puts (lo := w.heap.size) (hi := w.heap.size + 1) (Nat.le_refl _) (Nat.lt_succ_self _) _ _ _).size
        · rw [← setCells_mes]
          have hd := HD.out
          subst hd
          exact HT2.out.put HC2.out hlt hl (Nat.le_refl _) F2.out
        · rw [← setCells_mes]
          exact (ins_puts (lo := w.heap.size) (hi := w.heap.size + 1) (Nat.le_refl _) (Nat.lt_succ_self _) _ _ _).ext hxx (Nat.le_refl _)
      case measure => simp [intOf]; omega
    · obtain rfl : k = L.length := by omega
      go_wp2
      go_ret
      exact ⟨_, rfl, mesz_of hB.out rfl (by unfold maxLen; omega) hl hC.out hT.out, hx⟩
end Go.Proofs.YtbffkidkfannhaaGreat

namespace Go.Proofs.YtbffkidkfannhaaGreat
open Go.RowKit
set_option linter.unusedVariables false

theorem Tryz.infoAsk : ((Tryz.prog.info? 106).map (fun i => (i.zero, i.size))) = some (some (.agg #[.int .i64 0, .int .i64 0, .int .i64 0, .int .i64 0, .int .i64 0, .int .i64 0, .int .i64 0]), 7) := by kernel_rfl
theorem ask_parts : ∃ i, Tryz.prog.info? 106 = some i ∧ i.zero = some (.agg #[.int .i64 0, .int .i64 0, .int .i64 0, .int .i64 0, .int .i64 0, .int .i64 0, .int .i64 0]) ∧ i.size = 7 := by
  have h := Tryz.infoAsk
  cases hi : Tryz.prog.info? 106 with
  | none => rw [hi] at h; cases h
  | some i =>
    rw [hi] at h
    simp only [Option.map_some, Option.some.injEq, Prod.mk.injEq] at h
    exact ⟨i, rfl, h.1, h.2⟩
theorem ask_bytes : ∀ i, Tryz.prog.info? 106 = some i → i.bytes ≤ 256 := by
  intro i hi
  have h : ((Tryz.prog.info? 106).map (fun i => decide (i.bytes ≤ 256))) = some true := by kernel_rfl
  rw [hi] at h
  simpa using h
theorem askz_of {w : World} {g n : Nat} {xs : List Value} {L : List AskD} (hb : BoxV w g xs) (hn : n = L.length) (hm : n ≤ maxLen) (hl : xs.length = L.length * 7) (h : AsksTo xs L n) : AskzM g w.heap.size w (.slice (some ⟨g, 0, none⟩) n n) L := by
  subst hn
  exact ⟨g, xs, Nat.le_refl _, hb.lt, rfl, hm, hb, hl, h⟩

set_option maxHeartbeats 8000000 in
set_option maxRecDepth 100000 in
theorem toAskS_any (u : Value) (L : List AskD) (w : World) (hu : Askz w u L) (hs : bulkAsk L ≤ 549755813888) :
    Calls Tryz.prog 27 #[u] w (NewAskS L w) := by
  obtain ⟨au, cu, rfl, hlu, _, hcu⟩ := hu
  unfold maxLen at hlu
  have hL : L.length ≤ 549755813888 := by unfold bulkAsk at hs; omega
  obtain ⟨i0, hi, hz0, hz1⟩ := ask_parts
  have hz2 := ask_bytes i0 hi
  have HS := Lib.hid hs
  clear hs
  go_enter Tryz.func27, Tryz.ntmps27
  go_wp2_with (at_make; refine wpList_make_full _ rfl _ _ 33 rfl w.heap.size 106 i0 _ 7 Tryz.underlying33 hi hz0 hz1 _ _ _ _ L.length rfl rfl rfl rfl ?c1 ?c2 ?c3 ?_)
  case c1 =>
    have hmul := Nat.mul_le_mul hL hz2
    first
    | exact Nat.le_trans hmul (by decide)
    | (rw [Nat.mul_comm]; exact Nat.le_trans hmul (by decide))
  case c2 => unfold maxLen; omega
  case c3 => simp
  intro w1 ho1 hg1
  have hx1 : Ext w w1 := ext_of_grown hg1
  have hsz : w.heap.size < w1.heap.size := by
    rcases ho1.2 with ⟨h, _⟩ | ⟨g, cap, cur, h, hb, hg, _⟩
    · cases h
    · simp only [Value.slice.injEq, Option.some.injEq, Addr.mk.injEq, and_true, true_and] at h
      obtain ⟨rfl, _⟩ := h
      exact (Array.getElem?_eq_some_iff.1 hg).1
  obtain ⟨xs0, hxs⟩ : ∃ xs, xs = (madeCells #[.int .i64 0, .int .i64 0, .int .i64 0, .int .i64 0, .int .i64 0, .int .i64 0, .int .i64 0] (L.length * 7)).toList := ⟨_, rfl⟩
  rw [← hxs] at ho1
  have hlx : xs0.length = L.length * 7 := ho1.1
  have hbx : BoxV w1 w.heap.size xs0 := ⟨fun j v hj => by
    rw [ho1.cellAt _ (by have := (List.getElem?_eq_some_iff.1 hj).1; omega)]; exact hj, fun j _ => ho1.frozenAt j, hsz⟩
  clear hg1 hz0 hz1 hz2 hi hxs ho1 hsz
  have HBX := Lib.hid hbx
  clear hbx
  go_wp2
  go_loopw [4] (fun i wr => ∃ (k : Nat) (xs : List Value), k ≤ L.length ∧ i = .int .i64 k ∧ Hid (BoxV wr w.heap.size xs) ∧ xs.length = L.length * 7 ∧ Hid (AsksTo xs L k) ∧ Ext w wr) (fun i _ => L.length - (intOf i).toNat)
  case atStart => exact ⟨0, xs0, Nat.zero_le _, rfl, HBX, hlx, Lib.hid (fun j _ h => by omega), hx1⟩
  case round =>
    clear hx1 HBX hlx
    obtain ⟨k, xs, hk, rfl, hB, hl, hT, hx⟩ := hrel
    by_cases hlt : k < L.length
    · obtain ⟨bu, ou, rfl, du⟩ := hcu (by omega)
      have hy := du k hlt
      obtain ⟨d, hd⟩ : ∃ d, d = L[k] := ⟨_, rfl⟩
      have hbk : bulk1Ask d ≤ 549755813888 := by rw [hd]; have := bulkAsk_at hlt; have := HS.out; omega
      rw [← hd] at hy
      have hy := hy.ext hx
      skip
      have HD := Lib.hid hd
      obtain ⟨c0, c1, c2, c3, c4, c5, c6⟩ := askIn_cells hy
      clear hcu du hy hd
      go_wp2_with fail
      refine (toAsked_any d _).mono ?_
      rintro e w2 ⟨rfl, x2⟩
      clear c0 c1 c2 c3 c4 c5 c6
      have hb2 := hB.out.ext x2
      have HT2 := hT
      skip
      have HB2 := Lib.hid hb2
      obtain ⟨o0, g0⟩ : ∃ v, w2.cell? ⟨w.heap.size, k * 7, none⟩ = some v := ⟨_, hb2.cell (k * 7) _ (List.getElem?_eq_getElem (by omega))⟩
      have n0 := hb2.free (k * 7) (by omega)
      obtain ⟨o1, g1⟩ : ∃ v, w2.cell? ⟨w.heap.size, k * 7 + 1, none⟩ = some v := ⟨_, hb2.cell (k * 7 + 1) _ (List.getElem?_eq_getElem (by omega))⟩
      have n1 := hb2.free (k * 7 + 1) (by omega)
      obtain ⟨o2, g2⟩ : ∃ v, w2.cell? ⟨w.heap.size, k * 7 + 2, none⟩ = some v := ⟨_, hb2.cell (k * 7 + 2) _ (List.getElem?_eq_getElem (by omega))⟩
      have n2 := hb2.free (k * 7 + 2) (by omega)
      obtain ⟨o3, g3⟩ : ∃ v, w2.cell? ⟨w.heap.size, k * 7 + 3, none⟩ = some v := ⟨_, hb2.cell (k * 7 + 3) _ (List.getElem?_eq_getElem (by omega))⟩
      have n3 := hb2.free (k * 7 + 3) (by omega)
      obtain ⟨o4, g4⟩ : ∃ v, w2.cell? ⟨w.heap.size, k * 7 + 4, none⟩ = some v := ⟨_, hb2.cell (k * 7 + 4) _ (List.getElem?_eq_getElem (by omega))⟩
      have n4 := hb2.free (k * 7 + 4) (by omega)
      obtain ⟨o5, g5⟩ : ∃ v, w2.cell? ⟨w.heap.size, k * 7 + 5, none⟩ = some v := ⟨_, hb2.cell (k * 7 + 5) _ (List.getElem?_eq_getElem (by omega))⟩
      have n5 := hb2.free (k * 7 + 5) (by omega)
      obtain ⟨o6, g6⟩ : ∃ v, w2.cell? ⟨w.heap.size, k * 7 + 6, none⟩ = some v := ⟨_, hb2.cell (k * 7 + 6) _ (List.getElem?_eq_getElem (by omega))⟩
      have n6 := hb2.free (k * 7 + 6) (by omega)
      have hxx := hx.trans x2
      clear hb2 hx x2 hB hT
      skip
      go_wp2
      go_roundw
      case rel =>
        refine ⟨k + 1, putL xs (k * 7) (askVs d ), by omega, by go_num, Lib.hid ?_, by rw [putL_len]; exact hl, Lib.hid ?_, ?_⟩
        · rw [← setCells_ask]
          exact boxV_puts _ _ _ _ HB2.out (by rw [askVs_len]; omega)
        · have hd := HD.out
          subst hd
          exact HT2.out.put hlt hl
        · rw [← setCells_ask]
          exact (ins_puts (lo := w.heap.size) (hi := w.heap.size + 1) (Nat.le_refl _) (Nat.lt_succ_self _) _ _ _).ext hxx (Nat.le_refl _)
      case measure => simp [intOf]; omega
    · obtain rfl : k = L.length := by omega
      go_wp2
      go_ret
      exact ⟨_, rfl, askz_of hB.out rfl (by unfold maxLen; omega) hl hT.out, hx⟩
end Go.Proofs.YtbffkidkfannhaaGreat
