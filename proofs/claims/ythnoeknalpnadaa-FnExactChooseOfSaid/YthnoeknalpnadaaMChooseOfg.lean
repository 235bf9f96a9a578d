/- Texts of this proof, part g: words, plain facts, contracts. -/
import Derived.Test.YthnoeknalpnadaaMChooseOfd
import Derived.Test.YthnoeknalpnadaaMChooseOfe
import Derived.Test.YthnoeknalpnadaaMChooseOff
import Derived.Test.YthnoeknalpnadaaMChooseOfb

namespace Go.Proofs.Ythnoeknalpnadaa
open Go.RowKit
set_option linter.unusedVariables false

theorem alike_no {S : List RowD} {k : Nat} (h : k < S.length) (hk : likeB (head0 S) S[k] = false) : alike S S.length = false := by
  unfold alike
  rw [List.take_length, List.all_eq_false]
  exact ⟨_, List.getElem_mem h, by rw [hk]; simp⟩
set_option maxHeartbeats 8000000 in
set_option maxRecDepth 100000 in
theorem areFirst_any (v : Value) (S : List RowD) (w : World) (hv : Rowz w v S) (h0 : 0 < S.length) (hl : ∀ r ∈ S, r.l.length ≤ 1099511627776) :
    Calls Try.prog 91 #[v] w (BoolExt (alike S S.length) w) := by
  obtain ⟨av, cv, rfl, hlv, _, hcv⟩ := hv
  unfold maxLen at hlv
  obtain ⟨b, off, rfl, dv⟩ := hcv h0
  obtain ⟨y, hy⟩ : ∃ y, y = S[0] := ⟨_, rfl⟩
  obtain ⟨uy, huy, iuy⟩ := dv 0 h0
  rw [← hy] at huy iuy
  obtain ⟨ay, cy, rfl, _, _, _⟩ := id iuy
  have hh : head0 S = y := by unfold head0; rw [List.getElem?_eq_getElem h0, hy]; rfl
  rw [Nat.zero_mul, Nat.add_zero] at huy
  have HH := Lib.hid hh
  have HUY := Lib.hid huy
  have IY := Lib.hid iuy
  have DV := Lib.hid dv
  have HL := Lib.hid hl
  clear dv hcv hy huy iuy hh hl
  go_enter Try.func91, Try.ntmps91
  go_wp2
  go_loopw [7] (fun i wr => ∃ k : Nat, k ≤ S.length ∧ i = .int .i64 k ∧ Hid (alike S k = true) ∧ Hid (Ext w wr)) (fun i _ => S.length - (intOf i).toNat)
  case atStart => exact ⟨0, Nat.zero_le _, rfl, Lib.hid (by simp [alike]), Lib.hid (Ext.refl _)⟩
  case round =>
    obtain ⟨k, hk, rfl, HA, HX⟩ := hrel
    by_cases hlt : k < S.length
    · obtain ⟨r, hr⟩ : ∃ r, r = S[k] := ⟨_, rfl⟩
      obtain ⟨u, hu, iu⟩ := DV.out k hlt
      rw [← hr] at hu iu
      obtain ⟨au, cu, rfl, _, _, _⟩ := id iu
      have HRL : Hid (r.l.length ≤ 1099511627776) := Lib.hid (HL.out r (by rw [hr]; exact List.getElem_mem hlt))
      have HNO : Hid (likeB y r = false → alike S S.length = false) := Lib.hid (fun h => alike_no hlt (by rw [HH.out, ← hr]; exact h))
      have HYES : Hid (likeB y r = true → alike S (k + 1) = true) := Lib.hid (fun h => by rw [alike_succ hlt, HA.out, HH.out, ← hr, h]; rfl)
      have HLT := Lib.hid hlt
      obtain ⟨g0, g1, g2, g3, g4, g5, g6, g7, g8, g9⟩ := hu.ext HX.out
      obtain ⟨w2, hw2⟩ : ∃ w2, w2 = wr.alloc (.cells #[.int .i64 r.b, .int .i64 r.v, .int .i64 r.st, .int .i64 r.k, .int .i64 r.i, .int .i64 r.f, .int .i64 r.t, .int .i64 r.a, .int .i64 r.s, .slice au r.l.length cu] 71) := ⟨_, rfl⟩
      have x2 : Ext wr w2 := by rw [hw2]; exact Ext.alloc1 _ _
      have r2 := rowAt_new wr 71 r (.slice au r.l.length cu)
      rw [← hw2] at r2
      obtain ⟨br, hbr⟩ : ∃ br, br = wr.heap.size := ⟨_, rfl⟩
      rw [← hbr] at r2
      have HBR := Lib.hid hbr
      have HW2 := Lib.hid hw2
      have X2 := Lib.hid (HX.out.trans x2)
      have IU := Lib.hid ((iu.ext HX.out).ext x2)
      have IY2 := Lib.hid (IY.out.ext (HX.out.trans x2))
      obtain ⟨_, p1, p2, p3, p4, p5, p6, p7, p8, p9⟩ := r2
      obtain ⟨_, _, _, q3, q4, q5, q6, q7, q8, q9⟩ := HUY.out.ext (HX.out.trans x2)
      have p1 := fun E : ExtOf w2 => E.cell p1
      have p2 := fun E : ExtOf w2 => E.cell p2
      have p3 := fun E : ExtOf w2 => E.cell p3
      have p4 := fun E : ExtOf w2 => E.cell p4
      have p5 := fun E : ExtOf w2 => E.cell p5
      have p6 := fun E : ExtOf w2 => E.cell p6
      have p7 := fun E : ExtOf w2 => E.cell p7
      have p8 := fun E : ExtOf w2 => E.cell p8
      have p9 := fun E : ExtOf w2 => E.cell p9
      have q3 := fun E : ExtOf w2 => E.cell q3
      have q4 := fun E : ExtOf w2 => E.cell q4
      have q5 := fun E : ExtOf w2 => E.cell q5
      have q6 := fun E : ExtOf w2 => E.cell q6
      have q7 := fun E : ExtOf w2 => E.cell q7
      have q8 := fun E : ExtOf w2 => E.cell q8
      have q9 := fun E : ExtOf w2 => E.cell q9
      obtain ⟨c, hc⟩ : ∃ c, c = sameC r.k r.i r.f r.t r.a y.k y.i y.f y.t y.a := ⟨_, rfl⟩
      have ec := fun W => eq_cmd r.k r.i r.f r.t r.a y.k y.i y.f y.t y.a W
      rw [← hc] at ec
      obtain ⟨d, hd⟩ : ∃ d, d = sameA r.s y.s r.l y.l := ⟨_, rfl⟩
      have cS : ∀ E : ExtOf w2, Calls Try.prog 149 #[.agg #[.int .i64 r.s, .slice au r.l.length cu], .agg #[.int .i64 y.s, .slice ay y.l.length cy]] E.1 (BoolExt d E.1) := fun E => by
        rw [hd]
        exact implSame_any _ _ _ _ r.l y.l _ (IU.out.ext E.2) (IY2.out.ext E.2) HRL.out
      have hlike : likeB y r = ((r.st == 1) && ((r.v == 0) && (c && d))) := by unfold likeB; rw [hc, hd]
      have HLK := Lib.hid hlike
      clear hr hu iu hw2 x2 hbr hc hd hlike HH HL
      cases e1 : (r.st == 1) with
      | false =>
        have n1 : (r.st != 1) = true := by simpa using e1
        have HO : Hid (alike S S.length = false) := Lib.hid (HNO.out (by rw [HLK.out, e1]; rfl))
        clear e1 ec cS
        go_wp2_with fail
        rw [← HW2.out, ← HBR.out]
        refine wp_region_ext_lit (by kernel_rfl) (by kernel_rfl) ?_
        repeat (go_big_quiet_step (first | fail))
        refine wpQuiet_nil ?_
        rintro _ ⟨E, rfl⟩
        have XE := Lib.hid (X2.out.trans E.2)
        clear p1 p2 p3 p4 p5 p6 p7 p8 p9 q3 q4 q5 q6 q7 q8 q9
        go_wp2
        go_ret
        exact ⟨by rw [HO.out]; rfl, XE.out⟩
      | true =>
        have n1 : (r.st != 1) = false := by simpa using e1
        rw [e1] at HLK
        clear e1
        cases e2 : (r.v == 0) with
        | false =>
          have n2 : (r.v != 0) = true := by simpa using e2
          have HO : Hid (alike S S.length = false) := Lib.hid (HNO.out (by rw [HLK.out, e2]; rfl))
          clear e2 ec cS
          go_wp2_with fail
          rw [← HW2.out, ← HBR.out]
          refine wp_region_ext_lit (by kernel_rfl) (by kernel_rfl) ?_
          repeat (go_big_quiet_step (first | fail))
          refine wpQuiet_nil ?_
          rintro _ ⟨E, rfl⟩
          have XE := Lib.hid (X2.out.trans E.2)
          clear p1 p2 p3 p4 p5 p6 p7 p8 p9 q3 q4 q5 q6 q7 q8 q9
          go_wp2
          go_ret
          exact ⟨by rw [HO.out]; rfl, XE.out⟩
        | true =>
          have n2 : (r.v != 0) = false := by simpa using e2
          rw [e2] at HLK
          clear e2
          cases c with
          | false =>
            have HO : Hid (alike S S.length = false) := Lib.hid (HNO.out (by rw [HLK.out]; rfl))
            clear cS
            go_wp2_with fail
            rw [← HW2.out, ← HBR.out]
            refine wp_region_ext_lit (by kernel_rfl) (by kernel_rfl) ?_
            repeat (go_big_quiet_step (first | fail))
            refine wpQuiet_nil ?_
            rintro _ ⟨E, rfl⟩
            have XE := Lib.hid (X2.out.trans E.2)
            clear p1 p2 p3 p4 p5 p6 p7 p8 p9 q3 q4 q5 q6 q7 q8 q9 ec
            go_wp2
            go_ret
            exact ⟨by rw [HO.out]; rfl, XE.out⟩
          | true =>
            go_wp2_with fail
            rw [← HW2.out, ← HBR.out]
            refine wp_region_ext_lit (by kernel_rfl) (by kernel_rfl) ?_
            repeat (go_big_quiet_step (first | (go_at_call 149; with_reducible exact Calls.ext_of _ (cS _))))
            refine wpQuiet_nil ?_
            rintro _ ⟨E, rfl⟩
            have XE := Lib.hid (X2.out.trans E.2)
            clear p1 p2 p3 p4 p5 p6 p7 p8 p9 q3 q4 q5 q6 q7 q8 q9 ec cS
            cases d with
            | false =>
              have HO : Hid (alike S S.length = false) := Lib.hid (HNO.out (by rw [HLK.out]; rfl))
              go_wp2
              go_ret
              exact ⟨by rw [HO.out]; rfl, XE.out⟩
            | true =>
              have HY := Lib.hid (HYES.out (by rw [HLK.out]; rfl))
              go_wp2
              go_roundw
              case rel => exact ⟨k + 1, by have := HLT.out; omega, by go_num, HY, XE⟩
              case measure => simp [intOf]; have := HLT.out; omega
    · obtain rfl : k = S.length := by omega
      go_wp2
      go_ret
      exact ⟨by rw [HA.out]; rfl, HX.out⟩
end Go.Proofs.Ythnoeknalpnadaa

namespace Go.Proofs.Ythnoeknalpnadaa
open Go.RowKit
set_option linter.unusedVariables false

/-- Whether it is an instance of a group of n. -/
def instB (n rep no : Int) : Bool := inB rep 0 (n - 1) && inB no 1 6
theorem isGrp_bd {n : Int} (h : isGrp n = true) : 3 ≤ n ∧ n ≤ 5 := by rcases isGrp_of h with rfl | rfl <;> omega

set_option maxHeartbeats 400000 in
theorem l3Inst_any (n rep no : Int) (w : World) (h3 : 3 ≤ n) (h5 : n ≤ 5) :
    Calls Try.prog 131 #[.int .i64 n, .int .i64 rep, .int .i64 no] w fun e w' => e = .returned (.bool (instB n rep no)) ∧ w = w' := by
  unfold instB
  cases h1 : inB rep 0 (n - 1)
  · have H1 := Lib.hid h1
    clear h1
    go_enter Try.func131, Try.ntmps131
    go_wp2_with fail
    refine (l1In_any _ _ _ _).mono ?_
    rintro e w' ⟨rfl, rfl⟩
    rw [H1.out]
    go_wp2
    go_ret
    exact ⟨rfl, rfl⟩
  · have H1 := Lib.hid h1
    clear h1
    cases h2 : inB no 1 6
    all_goals
      have H2 := Lib.hid h2
      clear h2
      go_enter Try.func131, Try.ntmps131
      go_wp2_with fail
      refine (l1In_any _ _ _ _).mono ?_
      rintro e w' ⟨rfl, rfl⟩
      rw [H1.out]
      go_wp2_with fail
      refine (l1In_any _ _ _ _).mono ?_
      rintro e w' ⟨rfl, rfl⟩
      rw [H2.out]
      go_wp2
      go_ret
      exact ⟨rfl, rfl⟩

def repB (n k : Int) : Bool := isGrp n && inB k 0 (n - 1)
set_option maxHeartbeats 1000000 in
theorem isReplica_any (n k : Int) (w : World) :
    Calls Try.prog 78 #[.int .i64 n, .int .i64 k] w fun e w' => e = .returned (.bool (repB n k)) ∧ w = w' := by
  unfold repB
  cases hg : isGrp n with
  | false =>
    have HG := Lib.hid hg
    clear hg
    go_enter Try.func78, Try.ntmps78
    go_wp2_with fail
    refine (implIsGroup_any _ _).mono ?_
    rintro e w' ⟨rfl, rfl⟩
    rw [HG.out]
    go_wp2
    go_ret
    exact ⟨rfl, rfl⟩
  | true =>
    have HG := Lib.hid hg
    clear hg
    by_cases h1 : k < 0
    · have hr : inB k 0 (n - 1) = false := inB_no (by omega)
      rw [hr]
      clear hr
      go_enter Try.func78, Try.ntmps78
      go_wp2_with fail
      refine (implIsGroup_any _ _).mono ?_
      rintro e w' ⟨rfl, rfl⟩
      rw [HG.out]
      go_wp2
      go_ret
      exact ⟨rfl, rfl⟩
    · by_cases h2 : k < n
      · have h3 : 0 ≤ k := by omega
        have hr : inB k 0 (n - 1) = true := inB_yes h3 (by omega)
        rw [hr]
        clear hr h1
        go_enter Try.func78, Try.ntmps78
        go_wp2_with fail
        refine (implIsGroup_any _ _).mono ?_
        rintro e w' ⟨rfl, rfl⟩
        rw [HG.out]
        go_wp2
        go_ret
        exact ⟨rfl, rfl⟩
      · have h3 : 0 ≤ k := by omega
        have h4 : n ≤ k := by omega
        have hr : inB k 0 (n - 1) = false := inB_no (by omega)
        have nk : decide (k < n) = false := decide_eq_false h2
        rw [hr]
        clear hr h1 h2 h4
        go_enter Try.func78, Try.ntmps78
        go_wp2_with fail
        refine (implIsGroup_any _ _).mono ?_
        rintro e w' ⟨rfl, rfl⟩
        rw [HG.out]
        go_wp2
        go_ret
        exact ⟨rfl, rfl⟩

set_option maxHeartbeats 1000000 in
/-- Whether it is an instance, of a group or of none. -/
theorem isInstance_all (n rep no : Int) (w : World) :
    Calls Try.prog 105 #[.int .i64 n, .int .i64 rep, .int .i64 no] w fun e w' => e = .returned (.bool (repB n rep && inB no 1 6)) ∧ w = w' := by
  cases hg : repB n rep with
  | false =>
    have HG := Lib.hid hg
    clear hg
    go_enter Try.func105, Try.ntmps105
    go_wp2_with fail
    refine (isReplica_any _ _ _).mono ?_
    rintro e w' ⟨rfl, rfl⟩
    rw [HG.out]
    go_wp2
    go_ret
    exact ⟨rfl, rfl⟩
  | true =>
    have HG := Lib.hid hg
    clear hg
    by_cases h1 : no < 1
    · have hr : inB no 1 6 = false := inB_no (by omega)
      rw [hr]
      clear hr
      go_enter Try.func105, Try.ntmps105
      go_wp2_with fail
      refine (isReplica_any _ _ _).mono ?_
      rintro e w' ⟨rfl, rfl⟩
      rw [HG.out]
      go_wp2
      go_ret
      exact ⟨rfl, rfl⟩
    · by_cases h2 : 6 < no
      · have h3 : 1 ≤ no := by omega
        have hr : inB no 1 6 = false := inB_no (by omega)
        have nk : decide (no ≤ 6) = false := decide_eq_false (by omega)
        rw [hr]
        clear hr h1 h2
        go_enter Try.func105, Try.ntmps105
        go_wp2_with fail
        refine (isReplica_any _ _ _).mono ?_
        rintro e w' ⟨rfl, rfl⟩
        rw [HG.out]
        go_wp2
        go_ret
        exact ⟨rfl, rfl⟩
      · have h3 : 1 ≤ no := by omega
        have h4 : no ≤ 6 := by omega
        have hr : inB no 1 6 = true := inB_yes h3 h4
        rw [hr]
        clear hr h1 h2
        go_enter Try.func105, Try.ntmps105
        go_wp2_with fail
        refine (isReplica_any _ _ _).mono ?_
        rintro e w' ⟨rfl, rfl⟩
        rw [HG.out]
        go_wp2
        go_ret
        exact ⟨rfl, rfl⟩
theorem isInstance_any (n rep no : Int) (w : World) (hg : isGrp n = true) :
    Calls Try.prog 105 #[.int .i64 n, .int .i64 rep, .int .i64 no] w fun e w' => e = .returned (.bool (instB n rep no)) ∧ w = w' := by
  have h := isInstance_all n rep no w
  unfold repB at h
  rw [hg, Bool.true_and] at h
  exact h

/-- Does it hang on the instance? -/
def hangsB (n s : Int) (l : List Int) (rep no : Int) : Bool := goodA n s l && instB n rep no && decide (no ≤ l[rep.toNat]?.getD 0)
def hangsOk (n s : Int) (l : List Int) (rep no : Int) : Bool := goodA n s l && instB n rep no
set_option maxHeartbeats 1000000 in
theorem specHangs_any (n s : Int) (u : Value) (l : List Int) (rep no : Int) (w : World) (hv : Ints w u l) :
    Calls Try.prog 67 #[.int .i64 n, .agg #[.int .i64 s, u], .int .i64 rep, .int .i64 no] w (TwoB (hangsB n s l rep no) (hangsOk n s l rep no) w) := by
  have hb := attrAt_new w 39 s u
  obtain ⟨au, cu, rfl, hlu, hcap, hcu⟩ := hv
  have HV : Hid (Ints w (.slice au l.length cu) l) := Lib.hid ⟨au, cu, rfl, hlu, hcap, hcu⟩
  clear hlu hcap
  unfold hangsB hangsOk
  cases hg : goodA n s l with
  | false =>
    have HG := Lib.hid hg
    clear hg hcu
    go_enter Try.func67, Try.ntmps67
    go_wp2_with fail
    refine (specGoodAttr_any _ _ _ l _ (HV.out.ext (Ext.alloc (Ext.refl _) _))).mono ?_
    rintro e w1 ⟨rfl, x1⟩
    rw [HG.out]
    have hx : Ext w w1 := (Ext.alloc (Ext.refl _) _).trans x1
    clear x1 hb
    go_wp2
    go_ret2
    exact ⟨rfl, hx⟩
  | true =>
    have HG := Lib.hid hg
    obtain ⟨hgr, hgd⟩ := goodA_of hg
    obtain ⟨_, hlen, _⟩ := goodD_of hgd
    obtain ⟨h3, h5⟩ := isGrp_bd hgr
    clear hg hgr hgd
    cases hi : instB n rep no with
    | false =>
      have HI := Lib.hid hi
      clear hi hcu
      go_enter Try.func67, Try.ntmps67
      go_wp2_with fail
      refine (specGoodAttr_any _ _ _ l _ (HV.out.ext (Ext.alloc (Ext.refl _) _))).mono ?_
      rintro e w1 ⟨rfl, x1⟩
      rw [HG.out]
      have hx : Ext w w1 := (Ext.alloc (Ext.refl _) _).trans x1
      clear x1 hb hlen
      go_wp2_with fail
      refine (l3Inst_any _ _ _ _ h3 h5).mono ?_
      rintro e w' ⟨rfl, rfl⟩
      rw [HI.out]
      go_wp2
      go_ret2
      exact ⟨rfl, hx⟩
    | true =>
      have HI := Lib.hid hi
      obtain ⟨hr, hno⟩ : (0 ≤ rep ∧ rep < l.length) ∧ 1 ≤ no := by
        unfold instB inB at hi
        simp only [Bool.and_eq_true, decide_eq_true_eq] at hi
        omega
      obtain ⟨k, rfl⟩ : ∃ k : Nat, rep = (k : Int) := ⟨rep.toNat, by omega⟩
      have hk : k < l.length := by omega
      obtain ⟨bv, ov, rfl, dv⟩ := hcu (by omega)
      have gv := dv k hk
      rw [List.getElem?_eq_getElem hk, Option.getD_some] at gv
      rw [Int.toNat_natCast, List.getElem?_eq_getElem hk, Option.getD_some, Bool.true_and, Bool.true_and]
      obtain ⟨y, hy⟩ : ∃ y : Int, y = l[k] := ⟨_, rfl⟩
      rw [← hy] at gv ⊢
      have HL := Lib.hid hlen
      clear hi hcu dv hy hr hlen
      go_enter Try.func67, Try.ntmps67
      go_wp2_with fail
      refine (specGoodAttr_any _ _ _ l _ (HV.out.ext (Ext.alloc (Ext.refl _) _))).mono ?_
      rintro e w1 ⟨rfl, x1⟩
      rw [HG.out]
      obtain ⟨c0, c1⟩ := hb.ext x1
      have hx : Ext w w1 := (Ext.alloc (Ext.refl _) _).trans x1
      have gv1 := hx.cell gv
      clear x1 hb gv
      go_wp2_with fail
      refine (l3Inst_any _ _ _ _ h3 h5).mono ?_
      rintro e w' ⟨rfl, rfl⟩
      rw [HI.out]
      go_wp2
      go_ret2
      exact ⟨rfl, hx⟩

set_option maxHeartbeats 1000000 in
theorem implHangs_any (n s : Int) (u : Value) (l : List Int) (rep no : Int) (w : World) (hv : Ints w u l) :
    Calls Try.prog 69 #[.int .i64 n, .agg #[.int .i64 s, u], .int .i64 rep, .int .i64 no] w (TwoB (hangsB n s l rep no) (hangsOk n s l rep no) w) := by
  have hb := attrAt_new w 39 s u
  obtain ⟨au, cu, rfl, hlu, hcap, hcu⟩ := hv
  have HV : Hid (Ints w (.slice au l.length cu) l) := Lib.hid ⟨au, cu, rfl, hlu, hcap, hcu⟩
  clear hlu hcap
  unfold hangsB hangsOk
  cases hg : goodA n s l with
  | false =>
    have HG := Lib.hid hg
    clear hg hcu
    go_enter Try.func69, Try.ntmps69
    go_wp2_with fail
    refine (implGoodAttr_any _ _ _ l _ (HV.out.ext (Ext.alloc (Ext.refl _) _))).mono ?_
    rintro e w1 ⟨rfl, x1⟩
    rw [HG.out]
    have hx : Ext w w1 := (Ext.alloc (Ext.refl _) _).trans x1
    clear x1 hb
    go_wp2
    go_ret2
    exact ⟨rfl, hx⟩
  | true =>
    have HG := Lib.hid hg
    obtain ⟨hgr, hgd⟩ := goodA_of hg
    obtain ⟨_, hlen, _⟩ := goodD_of hgd
    obtain ⟨h3, h5⟩ := isGrp_bd hgr
    have HGR := Lib.hid hgr
    clear hg hgr hgd
    cases hi : instB n rep no with
    | false =>
      have HI := Lib.hid hi
      clear hi hcu
      go_enter Try.func69, Try.ntmps69
      go_wp2_with fail
      refine (implGoodAttr_any _ _ _ l _ (HV.out.ext (Ext.alloc (Ext.refl _) _))).mono ?_
      rintro e w1 ⟨rfl, x1⟩
      rw [HG.out]
      have hx : Ext w w1 := (Ext.alloc (Ext.refl _) _).trans x1
      clear x1 hb hlen
      go_wp2_with fail
      refine (isInstance_any _ _ _ _ HGR.out).mono ?_
      rintro e w' ⟨rfl, rfl⟩
      rw [HI.out]
      go_wp2
      go_ret2
      exact ⟨rfl, hx⟩
    | true =>
      have HI := Lib.hid hi
      obtain ⟨hr, hno⟩ : (0 ≤ rep ∧ rep < l.length) ∧ 1 ≤ no := by
        unfold instB inB at hi
        simp only [Bool.and_eq_true, decide_eq_true_eq] at hi
        omega
      obtain ⟨k, rfl⟩ : ∃ k : Nat, rep = (k : Int) := ⟨rep.toNat, by omega⟩
      have hk : k < l.length := by omega
      obtain ⟨bv, ov, rfl, dv⟩ := hcu (by omega)
      have gv := dv k hk
      rw [List.getElem?_eq_getElem hk, Option.getD_some] at gv
      rw [Int.toNat_natCast, List.getElem?_eq_getElem hk, Option.getD_some, Bool.true_and, Bool.true_and]
      obtain ⟨y, hy⟩ : ∃ y : Int, y = l[k] := ⟨_, rfl⟩
      rw [← hy] at gv ⊢
      clear hi hcu dv hy hr hlen
      go_enter Try.func69, Try.ntmps69
      go_wp2_with fail
      refine (implGoodAttr_any _ _ _ l _ (HV.out.ext (Ext.alloc (Ext.refl _) _))).mono ?_
      rintro e w1 ⟨rfl, x1⟩
      rw [HG.out]
      obtain ⟨c0, c1⟩ := hb.ext x1
      have hx : Ext w w1 := (Ext.alloc (Ext.refl _) _).trans x1
      have gv1 := hx.cell gv
      clear x1 hb gv
      go_wp2_with fail
      refine (isInstance_any _ _ _ _ HGR.out).mono ?_
      rintro e w' ⟨rfl, rfl⟩
      rw [HI.out]
      go_wp2
      go_ret2
      exact ⟨rfl, hx⟩

end Go.Proofs.Ythnoeknalpnadaa

namespace Go.Proofs.Ythnoeknalpnadaa
open Go.RowKit
set_option linter.unusedVariables false

theorem told_goodD {n : Int} {r : RowD} (h : toldB n r = true) (h0 : (r.st == 0) = false) : goodD n r.s r.l = true := by
  unfold toldB goodRow fullB at h
  rw [h0] at h
  simp only [Bool.and_eq_true, Bool.false_eq_true, if_false] at h
  exact h.2.2.2
theorem inSt_mem {S : List RowD} {st : Int} {r : RowD} (h : r ∈ inSt S st) : r ∈ S ∧ r.st = st := by
  unfold inSt at h
  have := List.mem_filter.1 h
  exact ⟨this.1, by simpa using this.2⟩
theorem chosen_good {n : Int} {S : List RowD} {st : Int} (hk : S.all (toldB n) = true) (hne : inSt S st ≠ []) (hst : st ≠ 0) : goodD n (lastV (inSt S st)).s (lastV (inSt S st)).l = true := by
  obtain ⟨h1, h2⟩ := inSt_mem (lastV_mem hne)
  exact told_goodD (List.all_eq_true.1 hk _ h1) (by rw [h2]; simpa using hst)
theorem head_good {n : Int} {S : List RowD} (hk : S.all (toldB n) = true) (h0 : 0 < S.length) (ha : alike S S.length = true) : goodD n (head0 S).s (head0 S).l = true := by
  have hm : head0 S ∈ S := by unfold head0; rw [List.getElem?_eq_getElem h0]; exact List.getElem_mem h0
  have hl : likeB (head0 S) (head0 S) = true := by
    unfold alike at ha
    rw [List.take_length] at ha
    exact List.all_eq_true.1 ha _ hm
  refine told_goodD (List.all_eq_true.1 hk _ hm) ?_
  unfold likeB at hl
  simp only [Bool.and_eq_true, beq_iff_eq] at hl
  rw [hl.1]; rfl
theorem chooseOk_most {n : Int} {S : List RowD} : chooseOk n S = (mostB n (S.length : Int) && (!decide ((n : Int) < S.length) && S.all (toldB n))) := by
  unfold chooseOk mostB inB
  cases hg : isGrp n with
  | false => rfl
  | true =>
    rw [majN_half hg]
    by_cases h1 : n / 2 + 1 ≤ (S.length : Int) <;> by_cases h2 : (S.length : Int) ≤ n <;> simp [h1, h2] <;> omega

/-- The two blocks of the result. -/
structure ResAt (w : World) (b : Nat) : Prop where
  cmd : w.cell? ⟨b, 0, none⟩ = some (.int .i64 0) ∧ w.cell? ⟨b, 1, none⟩ = some (.int .i64 0) ∧ w.cell? ⟨b, 2, none⟩ = some (.int .i64 0) ∧ w.cell? ⟨b, 3, none⟩ = some (.int .i64 0) ∧ w.cell? ⟨b, 4, none⟩ = some (.int .i64 0)
  free : w.frozen? ⟨b, 0, none⟩ = false ∧ w.frozen? ⟨b, 1, none⟩ = false ∧ w.frozen? ⟨b, 2, none⟩ = false ∧ w.frozen? ⟨b, 3, none⟩ = false ∧ w.frozen? ⟨b, 4, none⟩ = false
  attr : OpenAt w (b + 1) 0 (.slice none 0 0)
theorem ResAt.ext {w w' : World} {b : Nat} (h : ResAt w b) (e : Ext w w') : ResAt w' b := by
  obtain ⟨⟨c0, c1, c2, c3, c4⟩, ⟨z0, z1, z2, z3, z4⟩, ha⟩ := h
  have hl : b < w.heap.size := World.block_lt_of_cell? w _ c0
  exact ⟨⟨e.cell c0, e.cell c1, e.cell c2, e.cell c3, e.cell c4⟩, ⟨e.frozen hl z0, e.frozen hl z1, e.frozen hl z2, e.frozen hl z3, e.frozen hl z4⟩, ha.ext e⟩
theorem res_new (w : World) (T T' : TypeId) : ResAt ((w.alloc (.cells #[.int .i64 0, .int .i64 0, .int .i64 0, .int .i64 0, .int .i64 0] T)).alloc (.cells #[.int .i64 0, .slice none 0 0] T')) w.heap.size := by
  refine ⟨⟨?_, ?_, ?_, ?_, ?_⟩, ⟨?_, ?_, ?_, ?_, ?_⟩, ⟨⟨?_, ?_⟩, ?_, ?_⟩⟩ <;> go_simp
theorem attrs_new (W : World) (s : Int) (u : Value) (l : List Int) (h : Ints (W.alloc (.cells #[.int .i64 s, u] 39)) u l) : Attrs (W.alloc (.cells #[.int .i64 s, u] 39)) (.slice (some ⟨W.heap.size, 0, none⟩) 1 1) [(s, l)] := by
  refine ⟨some ⟨W.heap.size, 0, none⟩, 1, rfl, by simp [maxLen], ⟨Nat.le_refl _, by simp [maxLen], fun h => by cases h⟩, fun _ => ⟨W.heap.size, 0, rfl, fun j hj => ⟨u, ?_, ?_, ?_⟩⟩⟩
  · obtain rfl : j = 0 := by simp at hj; omega
    go_simp
  · obtain rfl : j = 0 := by simp at hj; omega
    go_simp
  · obtain rfl : j = 0 := by simp at hj; omega
    exact h
/-- joinAttrs of one good attribute. -/
theorem join1_any (n : Int) (hn : isGrp n = true) (r : RowD) (hg : goodD n r.s r.l = true) (v : Value) (w : World) (hv : Attrs w v [(r.s, r.l)]) :
    Calls Try.prog 90 #[.int .i64 n, v] w (NewAttr r.s r.l w) := by
  have h := joinAttrs_any n hn v [(r.s, r.l)] w hv
  obtain ⟨e1, e2⟩ := join_one hn hg
  unfold joinS_ at e1
  unfold joinL_ at e2
  have e3 : attrsOf [r] = [(r.s, r.l)] := rfl
  rw [e3] at e1 e2
  rw [e1, e2] at h
  exact h
/-- joinAttrs of the attributes of rows. -/
theorem joinN_any (n : Int) (hn : isGrp n = true) (L : List RowD) (v : Value) (w : World) (hv : Attrs w v (attrsOf L)) :
    Calls Try.prog 90 #[.int .i64 n, v] w (NewAttr (joinS_ n L) (joinL_ n L) w) := joinAttrs_any n hn v (attrsOf L) w hv

set_option maxHeartbeats 8000000 in
set_option maxRecDepth 100000 in
theorem implChoose_no (n : Int) (v : Value) (S : List RowD) (w : World) (hv : Rowz w v S) (hs : bulkR S ≤ 1099511627776) (hk : chooseOk n S = false) :
    Calls Try.prog 23 #[.int .i64 n, v] w (FourW (wayR n S) (pickR n S) false w) := by
  obtain ⟨w0, hw0⟩ : ∃ w0, w0 = (w.alloc (.cells #[.int .i64 0, .int .i64 0, .int .i64 0, .int .i64 0, .int .i64 0] 36)).alloc (.cells #[.int .i64 0, .slice none 0 0] 39) := ⟨_, rfl⟩
  have x0 : Ext w w0 := by rw [hw0]; exact (Ext.alloc1 _ _).alloc _
  have r0 := res_new w 36 39
  rw [← hw0] at r0
  have HW0 := Lib.hid hw0
  have X0 := Lib.hid x0
  have R0 := Lib.hid r0
  have HV := Lib.hid (hv.ext x0)
  have HS := Lib.hid hs
  obtain ⟨av, cv, rfl, hlv, _, hcv⟩ := hv
  unfold maxLen at hlv
  clear hw0 x0 r0 hs
  have e1 : wayR n S = 0 := by unfold wayR; rw [hk]; rfl
  have e2 : pickR n S = zeroR := by unfold pickR; rw [hk]; rfl
  rw [e1, e2]
  clear e1 e2 hcv
  rw [chooseOk_most] at hk
  cases hm : mostB n (S.length : Int) with
  | false =>
    have HM := Lib.hid hm
    clear hk hm
    go_enter Try.func23, Try.ntmps23
    go_wp2_with fail
    rw [← HW0.out]
    refine (isMost_any n _ _).mono ?_
    rintro e w' ⟨rfl, rfl⟩
    rw [HM.out]
    obtain ⟨⟨c0, c1, c2, c3, c4⟩, ⟨z0, z1, z2, z3, z4⟩, ⟨a0, a1⟩, y0, y1⟩ := R0.out
    go_wp2
    refine bodyPost_ret (v := .tuple #[.int .i64 0, .agg #[.int .i64 0, .int .i64 0, .int .i64 0, .int .i64 0, .int .i64 0], .agg #[.int .i64 0, .slice none 0 0], .bool false]) (by simp [results, Try.results23, go_sem, c0, c1, c2, c3, c4, a0, a1]) rfl ⟨_, rfl, fresh_nil _ _, ?_⟩
    exact ((((((X0.out.setc (Nat.le_refl _)).setc (Nat.le_refl _)).setc (Nat.le_refl _)).setc (Nat.le_refl _)).setc (Nat.le_refl _)).setc (Nat.le_succ _)).setc (Nat.le_succ _)
  | true =>
    have hgr : isGrp n = true := by unfold mostB at hm; simp only [Bool.and_eq_true] at hm; exact hm.1
    rw [hm, Bool.true_and] at hk
    have h35 := isGrp_bd hgr
    by_cases hlen : (n : Int) < S.length
    · have HM := Lib.hid hm
      have hln : decide (n < (S.length : Int)) = true := decide_eq_true hlen
      clear hk hm hgr
      go_enter Try.func23, Try.ntmps23
      go_wp2_with fail
      rw [← HW0.out]
      refine (isMost_any n _ _).mono ?_
      rintro e w' ⟨rfl, rfl⟩
      rw [HM.out]
      obtain ⟨⟨c0, c1, c2, c3, c4⟩, ⟨z0, z1, z2, z3, z4⟩, ⟨a0, a1⟩, y0, y1⟩ := R0.out
      go_wp2
      refine bodyPost_ret (v := .tuple #[.int .i64 0, .agg #[.int .i64 0, .int .i64 0, .int .i64 0, .int .i64 0, .int .i64 0], .agg #[.int .i64 0, .slice none 0 0], .bool false]) (by simp [results, Try.results23, go_sem, c0, c1, c2, c3, c4, a0, a1]) rfl ⟨_, rfl, fresh_nil _ _, ?_⟩
      exact ((((((X0.out.setc (Nat.le_refl _)).setc (Nat.le_refl _)).setc (Nat.le_refl _)).setc (Nat.le_refl _)).setc (Nat.le_refl _)).setc (Nat.le_succ _)).setc (Nat.le_succ _)
    · have ht : S.all (toldB n) = false := by rw [decide_eq_false hlen] at hk; simpa using hk
      have HM := Lib.hid hm
      have HT := Lib.hid ht
      have HGR := Lib.hid hgr
      have hln : decide (n < (S.length : Int)) = false := decide_eq_false hlen
      clear hk hm hgr ht
      go_enter Try.func23, Try.ntmps23
      go_wp2_with fail
      rw [← HW0.out]
      refine (isMost_any n _ _).mono ?_
      rintro e w' ⟨rfl, rfl⟩
      rw [HM.out]
      go_wp2_with fail
      refine (areReports_any n _ S _ HV.out HGR.out HS.out).mono ?_
      rintro e w1 ⟨rfl, x1⟩
      rw [HT.out]
      obtain ⟨⟨c0, c1, c2, c3, c4⟩, ⟨z0, z1, z2, z3, z4⟩, ⟨a0, a1⟩, y0, y1⟩ := R0.out.ext x1
      have hx := X0.out.trans x1
      clear x1
      go_wp2
      refine bodyPost_ret (v := .tuple #[.int .i64 0, .agg #[.int .i64 0, .int .i64 0, .int .i64 0, .int .i64 0, .int .i64 0], .agg #[.int .i64 0, .slice none 0 0], .bool false]) (by simp [results, Try.results23, go_sem, c0, c1, c2, c3, c4, a0, a1]) rfl ⟨_, rfl, fresh_nil _ _, ?_⟩
      exact ((((((hx.setc (Nat.le_refl _)).setc (Nat.le_refl _)).setc (Nat.le_refl _)).setc (Nat.le_refl _)).setc (Nat.le_refl _)).setc (Nat.le_succ _)).setc (Nat.le_succ _)
set_option maxHeartbeats 8000000 in
set_option maxRecDepth 100000 in
theorem implChoose_acc (n : Int) (v : Value) (S : List RowD) (w : World) (hv : Rowz w v S) (hs : bulkR S ≤ 1099511627776) (hk : chooseOk n S = true) (hA : inSt S 2 ≠ []) :
    Calls Try.prog 23 #[.int .i64 n, v] w (FourW (wayR n S) (pickR n S) true w) := by
  obtain ⟨w0, hw0⟩ : ∃ w0, w0 = (w.alloc (.cells #[.int .i64 0, .int .i64 0, .int .i64 0, .int .i64 0, .int .i64 0] 36)).alloc (.cells #[.int .i64 0, .slice none 0 0] 39) := ⟨_, rfl⟩
  have x0 : Ext w w0 := by rw [hw0]; exact (Ext.alloc1 _ _).alloc _
  have r0 := res_new w 36 39
  rw [← hw0] at r0
  have HW0 := Lib.hid hw0
  have X0 := Lib.hid x0
  have R0 := Lib.hid r0
  have HV := Lib.hid (hv.ext x0)
  have HS := Lib.hid hs
  obtain ⟨av, cv, rfl, hlv, _, hcv⟩ := hv
  unfold maxLen at hlv
  clear hw0 x0 r0 hs
  have e1 : wayR n S = wayOf n S := by unfold wayR; rw [hk]; rfl
  have e2 : pickR n S = pickOf n S := by unfold pickR; rw [hk]; rfl
  rw [e1, e2]
  clear e1 e2
  rw [chooseOk_most] at hk
  simp only [Bool.and_eq_true, Bool.not_eq_true', decide_eq_false_iff_not] at hk
  obtain ⟨hm, hlen, ht⟩ := hk
  have hgr : isGrp n = true := by unfold mostB at hm; simp only [Bool.and_eq_true] at hm; exact hm.1
  have h35 := isGrp_bd hgr
  obtain ⟨h3, h5⟩ := h35
  have hpos : 0 < S.length := by
    unfold mostB at hm
    simp only [Bool.and_eq_true, decide_eq_true_eq] at hm
    rw [majN_half hgr] at hm
    omega
  have hl5 : S.length ≤ 5 := by omega
  have hln : decide (n < (S.length : Int)) = false := decide_eq_false hlen
  have hll : ∀ r ∈ S, r.l.length ≤ 1099511627776 := by
    intro r hr
    obtain ⟨j, hj, rfl⟩ := List.getElem_of_mem hr
    have := bulkR_row hj
    have := HS.out
    omega
  have HM := Lib.hid hm
  have HT := Lib.hid ht
  have HGR := Lib.hid hgr
  have HPOS := Lib.hid hpos
  have HL5 := Lib.hid hl5
  have HLL := Lib.hid hll
  have HCV := Lib.hid hcv
  clear hm ht hgr hlen hpos hl5 hll hcv
  have e1 : wayOf n S = 1 := by unfold wayOf; rw [if_pos hA]
  have e2 : pickOf n S = lastV (inSt S 2) := by unfold pickOf; rw [if_pos hA]
  have HG := Lib.hid (chosen_good HT.out hA (by decide))
  have hA0 : 0 < (inSt S 2).length := List.length_pos_iff.2 hA
  have HA0 := Lib.hid hA0
  rw [e1, e2]
  obtain ⟨m, hmm⟩ : ∃ m, m = lastV (inSt S 2) := ⟨_, rfl⟩
  rw [← hmm] at HG ⊢
  have HMM := Lib.hid hmm
  clear e1 e2 hA hA0 hmm
  go_enter Try.func23, Try.ntmps23
  go_wp2_with fail
  rw [← HW0.out]
  refine (isMost_any n _ _).mono ?_
  rintro e w' ⟨rfl, rfl⟩
  rw [HM.out]
  go_wp2_with fail
  refine (areReports_any n _ S _ HV.out HGR.out HS.out).mono ?_
  rintro e w1 ⟨rfl, x1⟩
  rw [HT.out]
  have X1 := Lib.hid x1
  clear x1
  go_wp2_with fail
  refine (inState_any _ S 2 _ (HV.out.ext X1.out) HL5.out).mono ?_
  rintro e w2 ⟨v2, P2, rfl, f2, p2, i2, x2⟩
  have Z2 := f2.rowz (fun x hx => (i2 x hx).ext x2)
  rw [p2] at Z2
  have HZ2 := Lib.hid Z2
  obtain ⟨a2, c2, rfl, _, _, _⟩ := Z2
  have X2 := Lib.hid (X1.out.trans x2)
  have hpl : (0 : Int) < ((inSt S 2).length : Int) := by have := HA0.out; omega
  clear f2 p2 i2 x2 X1
  go_wp2_with fail
  refine (lastVote_any _ (inSt S 2) _ HZ2.out HA0.out).mono ?_
  rw [← HMM.out]
  rintro e w3 ⟨am, cm, rfl, im, x3⟩
  have xa := Ext.alloc1 w3 (.cells #[.int .i64 m.b, .int .i64 m.v, .int .i64 m.st, .int .i64 m.k, .int .i64 m.i, .int .i64 m.f, .int .i64 m.t, .int .i64 m.a, .int .i64 m.s, .slice am m.l.length cm] 71)
  have r3 := rowAt_new w3 71 m (.slice am m.l.length cm)
  obtain ⟨w4, hw4⟩ : ∃ w4, w4 = w3.alloc (.cells #[.int .i64 m.b, .int .i64 m.v, .int .i64 m.st, .int .i64 m.k, .int .i64 m.i, .int .i64 m.f, .int .i64 m.t, .int .i64 m.a, .int .i64 m.s, .slice am m.l.length cm] 71) := ⟨_, rfl⟩
  rw [← hw4] at xa r3
  obtain ⟨b4, hb4⟩ : ∃ b4, b4 = w3.heap.size := ⟨_, rfl⟩
  rw [← hb4] at r3
  have hb5 : b4 < w4.heap.size := by rw [hb4, hw4]; simp
  have IM := Lib.hid (im.ext (x3.trans xa))
  have X4 := Lib.hid (X2.out.trans (x3.trans xa))
  have R4 := Lib.hid r3
  have HB4 := Lib.hid hb4
  have HW4 := Lib.hid hw4
  clear im x3 xa r3 hb4 hw4 X2 HZ2 HMM
  obtain ⟨_, _, _, q3, q4, q5, q6, q7, q8, q9⟩ := R4.out
  obtain ⟨⟨c0, c1, c2', c3, c4⟩, ⟨z0, z1, z2, z3, z4⟩, ⟨a0, a1⟩, y0, y1⟩ := R0.out.ext X4.out
  go_wp2_with fail
  rw [← HW4.out, ← HB4.out]
  go_region_with (go_at_call 90; refine (join1_any n HGR.out m HG.out _ _ (attrs_new w4.drew m.s _ m.l (IM.out.ext ((Ext.drew (Ext.refl _)).alloc _)))).mono ?_; rintro e W ⟨z, rfl, f9, x9⟩; obtain ⟨az, cz, rfl⟩ := f9.form; have x94 : Ext w4 W := ((Ext.drew (Ext.refl _)).alloc _).trans x9; obtain ⟨_, _, _, q3, q4, q5, q6, q7, q8, q9⟩ := R4.out.ext x94; obtain ⟨⟨c0, c1, c2', c3, c4⟩, ⟨z0, z1, z2, z3, z4⟩, ⟨a0, a1⟩, y0, y1⟩ := R0.out.ext (X4.out.trans x94))
  all_goals
    have F9 := Lib.hid (f9.more (B' := w4.heap.size) (by simp))
    have hsz : w.heap.size + 1 < w4.heap.size := Nat.lt_of_lt_of_le (World.block_lt_of_cell? w0 _ R0.out.attr.1.1) X4.out.size
    have hx := X0.out.trans (X4.out.trans x94)
    clear f9 x9 x94 q3 q4 q5 q6 q7 q8 q9
    go_wp2
    refine bodyPost_ret (v := .tuple #[.int .i64 1, .agg #[.int .i64 m.k, .int .i64 m.i, .int .i64 m.f, .int .i64 m.t, .int .i64 m.a], .agg #[.int .i64 m.s, .slice az m.l.length cz], .bool true]) (by simp [results, Try.results23, go_sem, c0, c1, c2', c3, c4, a0, a1]) rfl ⟨_, rfl, ?_, ?_⟩
    · exact (((((((F9.out.set _ _ _ (by omega)).set _ _ _ (by omega)).set _ _ _ (by omega)).set _ _ _ (by omega)).set _ _ _ (by omega)).set _ _ _ (by omega)).set _ _ _ (by omega)).more (by omega)
    · exact ((((((hx.setc (by dsimp only; omega)).setc (by dsimp only; omega)).setc (by dsimp only; omega)).setc (by dsimp only; omega)).setc (by dsimp only; omega)).setc (by dsimp only; omega)).setc (by dsimp only; omega)
end Go.Proofs.Ythnoeknalpnadaa

namespace Go.Proofs.Ythnoeknalpnadaa
open Go.RowKit
set_option linter.unusedVariables false

set_option maxHeartbeats 8000000 in
set_option maxRecDepth 100000 in
theorem implChoose_like (n : Int) (v : Value) (S : List RowD) (w : World) (hv : Rowz w v S) (hs : bulkR S ≤ 1099511627776) (hk : chooseOk n S = true) (hA : inSt S 2 = []) (hB : alike S S.length = true) :
    Calls Try.prog 23 #[.int .i64 n, v] w (FourW (wayR n S) (pickR n S) true w) := by
  obtain ⟨w0, hw0⟩ : ∃ w0, w0 = (w.alloc (.cells #[.int .i64 0, .int .i64 0, .int .i64 0, .int .i64 0, .int .i64 0] 36)).alloc (.cells #[.int .i64 0, .slice none 0 0] 39) := ⟨_, rfl⟩
  have x0 : Ext w w0 := by rw [hw0]; exact (Ext.alloc1 _ _).alloc _
  have r0 := res_new w 36 39
  rw [← hw0] at r0
  have HW0 := Lib.hid hw0
  have X0 := Lib.hid x0
  have R0 := Lib.hid r0
  have HV := Lib.hid (hv.ext x0)
  have HS := Lib.hid hs
  obtain ⟨av, cv, rfl, hlv, _, hcv⟩ := hv
  unfold maxLen at hlv
  clear hw0 x0 r0 hs
  have e1 : wayR n S = wayOf n S := by unfold wayR; rw [hk]; rfl
  have e2 : pickR n S = pickOf n S := by unfold pickR; rw [hk]; rfl
  rw [e1, e2]
  clear e1 e2
  rw [chooseOk_most] at hk
  simp only [Bool.and_eq_true, Bool.not_eq_true', decide_eq_false_iff_not] at hk
  obtain ⟨hm, hlen, ht⟩ := hk
  have hgr : isGrp n = true := by unfold mostB at hm; simp only [Bool.and_eq_true] at hm; exact hm.1
  have h35 := isGrp_bd hgr
  obtain ⟨h3, h5⟩ := h35
  have hpos : 0 < S.length := by
    unfold mostB at hm
    simp only [Bool.and_eq_true, decide_eq_true_eq] at hm
    rw [majN_half hgr] at hm
    omega
  have hl5 : S.length ≤ 5 := by omega
  have hln : decide (n < (S.length : Int)) = false := decide_eq_false hlen
  have hll : ∀ r ∈ S, r.l.length ≤ 1099511627776 := by
    intro r hr
    obtain ⟨j, hj, rfl⟩ := List.getElem_of_mem hr
    have := bulkR_row hj
    have := HS.out
    omega
  have HM := Lib.hid hm
  have HT := Lib.hid ht
  have HGR := Lib.hid hgr
  have HPOS := Lib.hid hpos
  have HL5 := Lib.hid hl5
  have HLL := Lib.hid hll
  have HCV := Lib.hid hcv
  clear hm ht hgr hlen hpos hl5 hll hcv
  have e1 : wayOf n S = 1 := by unfold wayOf; rw [if_neg (by rw [hA]; simp), if_pos hB]
  have e2 : pickOf n S = head0 S := by unfold pickOf; rw [if_neg (by rw [hA]; simp), if_pos hB]
  have HG := Lib.hid (head_good HT.out HPOS.out hB)
  have hpos := HPOS.out
  rw [e1, e2]
  obtain ⟨b, off, rfl, dv⟩ := HCV.out hpos
  obtain ⟨y, hy⟩ : ∃ y, y = head0 S := ⟨_, rfl⟩
  have hy0 : S[0] = y := by rw [hy]; unfold head0; rw [List.getElem?_eq_getElem hpos]; rfl
  obtain ⟨uy, huy, iuy⟩ := dv 0 hpos
  rw [hy0] at huy iuy
  obtain ⟨ay, cy, rfl, _, _, _⟩ := id iuy
  rw [Nat.zero_mul, Nat.add_zero] at huy
  rw [← hy] at HG ⊢
  have HUY := Lib.hid (huy.ext X0.out)
  have IUY := Lib.hid (iuy.ext X0.out)
  have HB := Lib.hid hB
  have HA := Lib.hid hA
  clear e1 e2 dv hy hy0 huy iuy hA hB
  go_enter Try.func23, Try.ntmps23
  go_wp2_with fail
  rw [← HW0.out]
  refine (isMost_any n _ _).mono ?_
  rintro e w' ⟨rfl, rfl⟩
  rw [HM.out]
  go_wp2_with fail
  refine (areReports_any n _ S _ HV.out HGR.out HS.out).mono ?_
  rintro e w1 ⟨rfl, x1⟩
  rw [HT.out]
  have X1 := Lib.hid x1
  clear x1
  go_wp2_with fail
  refine (inState_any _ S 2 _ (HV.out.ext X1.out) HL5.out).mono ?_
  rintro e w2 ⟨v2, P2, rfl, f2, p2, i2, x2⟩
  have Z2 := f2.rowz (fun x hx => (i2 x hx).ext x2)
  rw [p2, HA.out] at Z2
  obtain ⟨a2, c2, rfl, _, _, _⟩ := Z2
  have X2 := Lib.hid (X1.out.trans x2)
  clear f2 p2 i2 x2 X1
  go_wp2_with fail
  refine (areFirst_any _ S _ (HV.out.ext X2.out) HPOS.out HLL.out).mono ?_
  rintro e w3 ⟨rfl, x3⟩
  rw [HB.out]
  have X3 := Lib.hid (X2.out.trans x3)
  have IM := Lib.hid (IUY.out.ext X3.out)
  clear x3 X2
  obtain ⟨_, _, _, q3, q4, q5, q6, q7, q8, q9⟩ := HUY.out.ext X3.out
  obtain ⟨⟨c0, c1, c2', c3, c4⟩, ⟨z0, z1, z2, z3, z4⟩, ⟨a0, a1⟩, y0, y1⟩ := R0.out.ext X3.out
  have hbz : b < w3.heap.size := World.block_lt_of_cell? w3 _ q3
  go_wp2_with fail
  go_region_with (go_at_call 90; refine (join1_any n HGR.out y HG.out _ _ (attrs_new w3.drew y.s _ y.l (IM.out.ext ((Ext.drew (Ext.refl _)).alloc _)))).mono ?_; rintro e W ⟨z, rfl, f9, x9⟩; obtain ⟨az, cz, rfl⟩ := f9.form; have x94 : Ext w3 W := ((Ext.drew (Ext.refl _)).alloc _).trans x9; obtain ⟨_, _, _, q3, q4, q5, q6, q7, q8, q9⟩ := HUY.out.ext (X3.out.trans x94); obtain ⟨⟨c0, c1, c2', c3, c4⟩, ⟨z0, z1, z2, z3, z4⟩, ⟨a0, a1⟩, y0, y1⟩ := R0.out.ext (X3.out.trans x94))
  all_goals
    have F9 := Lib.hid (f9.more (B' := w3.heap.size) (by simp))
    have hsz : w.heap.size + 1 < w3.heap.size := Nat.lt_of_lt_of_le (World.block_lt_of_cell? w0 _ R0.out.attr.1.1) X3.out.size
    have hx := X0.out.trans (X3.out.trans x94)
    clear f9 x9 x94 q3 q4 q5 q6 q7 q8 q9
    go_wp2
    refine bodyPost_ret (v := .tuple #[.int .i64 1, .agg #[.int .i64 y.k, .int .i64 y.i, .int .i64 y.f, .int .i64 y.t, .int .i64 y.a], .agg #[.int .i64 y.s, .slice az y.l.length cz], .bool true]) (by simp [results, Try.results23, go_sem, c0, c1, c2', c3, c4, a0, a1]) rfl ⟨_, rfl, ?_, ?_⟩
    · exact (((((((F9.out.set _ _ _ (by omega)).set _ _ _ (by omega)).set _ _ _ (by omega)).set _ _ _ (by omega)).set _ _ _ (by omega)).set _ _ _ (by omega)).set _ _ _ (by omega)).more (by omega)
    · exact ((((((hx.setc (by dsimp only; omega)).setc (by dsimp only; omega)).setc (by dsimp only; omega)).setc (by dsimp only; omega)).setc (by dsimp only; omega)).setc (by dsimp only; omega)).setc (by dsimp only; omega)

set_option maxHeartbeats 8000000 in
set_option maxRecDepth 100000 in
theorem implChoose_none (n : Int) (v : Value) (S : List RowD) (w : World) (hv : Rowz w v S) (hs : bulkR S ≤ 1099511627776) (hk : chooseOk n S = true) (hA : inSt S 2 = []) (hB : alike S S.length = false) (hC : inSt S 1 = []) :
    Calls Try.prog 23 #[.int .i64 n, v] w (FourW (wayR n S) (pickR n S) true w) := by
  obtain ⟨w0, hw0⟩ : ∃ w0, w0 = (w.alloc (.cells #[.int .i64 0, .int .i64 0, .int .i64 0, .int .i64 0, .int .i64 0] 36)).alloc (.cells #[.int .i64 0, .slice none 0 0] 39) := ⟨_, rfl⟩
  have x0 : Ext w w0 := by rw [hw0]; exact (Ext.alloc1 _ _).alloc _
  have r0 := res_new w 36 39
  rw [← hw0] at r0
  have HW0 := Lib.hid hw0
  have X0 := Lib.hid x0
  have R0 := Lib.hid r0
  have HV := Lib.hid (hv.ext x0)
  have HS := Lib.hid hs
  obtain ⟨av, cv, rfl, hlv, _, hcv⟩ := hv
  unfold maxLen at hlv
  clear hw0 x0 r0 hs
  have e1 : wayR n S = wayOf n S := by unfold wayR; rw [hk]; rfl
  have e2 : pickR n S = pickOf n S := by unfold pickR; rw [hk]; rfl
  rw [e1, e2]
  clear e1 e2
  rw [chooseOk_most] at hk
  simp only [Bool.and_eq_true, Bool.not_eq_true', decide_eq_false_iff_not] at hk
  obtain ⟨hm, hlen, ht⟩ := hk
  have hgr : isGrp n = true := by unfold mostB at hm; simp only [Bool.and_eq_true] at hm; exact hm.1
  have h35 := isGrp_bd hgr
  obtain ⟨h3, h5⟩ := h35
  have hpos : 0 < S.length := by
    unfold mostB at hm
    simp only [Bool.and_eq_true, decide_eq_true_eq] at hm
    rw [majN_half hgr] at hm
    omega
  have hl5 : S.length ≤ 5 := by omega
  have hln : decide (n < (S.length : Int)) = false := decide_eq_false hlen
  have hll : ∀ r ∈ S, r.l.length ≤ 1099511627776 := by
    intro r hr
    obtain ⟨j, hj, rfl⟩ := List.getElem_of_mem hr
    have := bulkR_row hj
    have := HS.out
    omega
  have HM := Lib.hid hm
  have HT := Lib.hid ht
  have HGR := Lib.hid hgr
  have HPOS := Lib.hid hpos
  have HL5 := Lib.hid hl5
  have HLL := Lib.hid hll
  have HCV := Lib.hid hcv
  clear hm ht hgr hlen hpos hl5 hll hcv
  have e1 : wayOf n S = 3 := by unfold wayOf; rw [if_neg (by rw [hA]; simp), if_neg (by rw [hB]; simp), if_neg (by rw [hC]; simp)]
  have e2 : pickOf n S = ⟨0, 0, 0, 0, 0, 0, 0, 0, 0, noneL n⟩ := by unfold pickOf; rw [if_neg (by rw [hA]; simp), if_neg (by rw [hB]; simp), if_neg (by rw [hC]; simp)]
  have hpos := HPOS.out
  rw [e1, e2]
  obtain ⟨L, hL⟩ : ∃ L, L = noneL n := ⟨_, rfl⟩
  rw [← hL]
  have cN := fun W => joinNone_any n W HGR.out
  rw [← hL] at cN
  have CN := Lib.hid cN
  have HB := Lib.hid hB
  have HA := Lib.hid hA
  have HC := Lib.hid hC
  clear e1 e2 hA hB hC hL cN
  go_enter Try.func23, Try.ntmps23
  go_wp2_with fail
  rw [← HW0.out]
  refine (isMost_any n _ _).mono ?_
  rintro e w' ⟨rfl, rfl⟩
  rw [HM.out]
  go_wp2_with fail
  refine (areReports_any n _ S _ HV.out HGR.out HS.out).mono ?_
  rintro e w1 ⟨rfl, x1⟩
  rw [HT.out]
  have X1 := Lib.hid x1
  clear x1
  go_wp2_with fail
  refine (inState_any _ S 2 _ (HV.out.ext X1.out) HL5.out).mono ?_
  rintro e w2 ⟨v2, P2, rfl, f2, p2, i2, x2⟩
  have Z2 := f2.rowz (fun x hx => (i2 x hx).ext x2)
  rw [p2, HA.out] at Z2
  obtain ⟨a2, c2, rfl, _, _, _⟩ := Z2
  have X2 := Lib.hid (X1.out.trans x2)
  clear f2 p2 i2 x2 X1
  go_wp2_with fail
  refine (areFirst_any _ S _ (HV.out.ext X2.out) HPOS.out HLL.out).mono ?_
  rintro e w3 ⟨rfl, x3⟩
  rw [HB.out]
  have X3 := Lib.hid (X2.out.trans x3)
  clear x3 X2
  go_wp2_with fail
  refine (inState_any _ S 1 _ (HV.out.ext X3.out) HL5.out).mono ?_
  rintro e w4 ⟨v4, P4, rfl, f4, p4, i4, x4⟩
  have Z4 := f4.rowz (fun x hx => (i4 x hx).ext x4)
  rw [p4, HC.out] at Z4
  obtain ⟨a4, c4, rfl, _, _, _⟩ := Z4
  have X4 := Lib.hid (X3.out.trans x4)
  clear f4 p4 i4 x4 X3
  go_wp2_with fail
  refine (CN.out _).mono ?_
  rintro e W ⟨z, rfl, f9, x9⟩
  obtain ⟨az, cz, rfl⟩ := f9.form
  obtain ⟨⟨c0, c1, c2', c3, c4⟩, ⟨z0, z1, z2, z3, z4⟩, ⟨a0, a1⟩, y0, y1⟩ := R0.out.ext (X4.out.trans x9)
  have F9 := Lib.hid f9
  have hsz : w.heap.size + 1 < w4.heap.size := Nat.lt_of_lt_of_le (World.block_lt_of_cell? w0 _ R0.out.attr.1.1) X4.out.size
  have hx := X0.out.trans (X4.out.trans x9)
  clear f9 x9
  go_wp2
  refine bodyPost_ret (v := .tuple #[.int .i64 3, .agg #[.int .i64 0, .int .i64 0, .int .i64 0, .int .i64 0, .int .i64 0], .agg #[.int .i64 0, .slice az L.length cz], .bool true]) (by simp [results, Try.results23, go_sem, c0, c1, c2', c3, c4, a0, a1]) rfl ⟨_, rfl, ?_, ?_⟩
  · exact (((((((F9.out.set _ _ _ (by omega)).set _ _ _ (by omega)).set _ _ _ (by omega)).set _ _ _ (by omega)).set _ _ _ (by omega)).set _ _ _ (by omega)).set _ _ _ (by omega)).more (by omega)
  · exact ((((((hx.setc (by dsimp only; omega)).setc (by dsimp only; omega)).setc (by dsimp only; omega)).setc (by dsimp only; omega)).setc (by dsimp only; omega)).setc (by dsimp only; omega)).setc (by dsimp only; omega)
end Go.Proofs.Ythnoeknalpnadaa

namespace Go.Proofs.Ythnoeknalpnadaa
open Go.RowKit
set_option linter.unusedVariables false

theorem field_rowC (b v st k i f t a s : Int) (u : Value) (W : World) : (Instr.field 71 (.agg #[.int .i64 b, .int .i64 v, .int .i64 st, .int .i64 k, .int .i64 i, .int .i64 f, .int .i64 t, .int .i64 a, .int .i64 s, u]) 3).run Try.prog W = .ok (.agg #[.int .i64 k, .int .i64 i, .int .i64 f, .int .i64 t, .int .i64 a]) W := by kernel_rfl

set_option maxHeartbeats 8000000 in
set_option maxRecDepth 100000 in
theorem implChoose_pre (n : Int) (v : Value) (S : List RowD) (w : World) (hv : Rowz w v S) (hs : bulkR S ≤ 1099511627776) (hk : chooseOk n S = true) (hA : inSt S 2 = []) (hB : alike S S.length = false) (hC : inSt S 1 ≠ []) :
    Calls Try.prog 23 #[.int .i64 n, v] w (FourW (wayR n S) (pickR n S) true w) := by
  obtain ⟨w0, hw0⟩ : ∃ w0, w0 = (w.alloc (.cells #[.int .i64 0, .int .i64 0, .int .i64 0, .int .i64 0, .int .i64 0] 36)).alloc (.cells #[.int .i64 0, .slice none 0 0] 39) := ⟨_, rfl⟩
  have x0 : Ext w w0 := by rw [hw0]; exact (Ext.alloc1 _ _).alloc _
  have r0 := res_new w 36 39
  rw [← hw0] at r0
  have HW0 := Lib.hid hw0
  have X0 := Lib.hid x0
  have R0 := Lib.hid r0
  have HV := Lib.hid (hv.ext x0)
  have HS := Lib.hid hs
  obtain ⟨av, cv, rfl, hlv, _, hcv⟩ := hv
  unfold maxLen at hlv
  clear hw0 x0 r0 hs
  have e1 : wayR n S = wayOf n S := by unfold wayR; rw [hk]; rfl
  have e2 : pickR n S = pickOf n S := by unfold pickR; rw [hk]; rfl
  rw [e1, e2]
  clear e1 e2
  rw [chooseOk_most] at hk
  simp only [Bool.and_eq_true, Bool.not_eq_true', decide_eq_false_iff_not] at hk
  obtain ⟨hm, hlen, ht⟩ := hk
  have hgr : isGrp n = true := by unfold mostB at hm; simp only [Bool.and_eq_true] at hm; exact hm.1
  have h35 := isGrp_bd hgr
  obtain ⟨h3, h5⟩ := h35
  have hpos : 0 < S.length := by
    unfold mostB at hm
    simp only [Bool.and_eq_true, decide_eq_true_eq] at hm
    rw [majN_half hgr] at hm
    omega
  have hl5 : S.length ≤ 5 := by omega
  have hln : decide (n < (S.length : Int)) = false := decide_eq_false hlen
  have hll : ∀ r ∈ S, r.l.length ≤ 1099511627776 := by
    intro r hr
    obtain ⟨j, hj, rfl⟩ := List.getElem_of_mem hr
    have := bulkR_row hj
    have := HS.out
    omega
  have HM := Lib.hid hm
  have HT := Lib.hid ht
  have HGR := Lib.hid hgr
  have HPOS := Lib.hid hpos
  have HL5 := Lib.hid hl5
  have HLL := Lib.hid hll
  have HCV := Lib.hid hcv
  clear hm ht hgr hlen hpos hl5 hll hcv
  have e1 : wayOf n S = 2 := by unfold wayOf; rw [if_neg (by rw [hA]; simp), if_neg (by rw [hB]; simp), if_pos hC]
  have hpos := HPOS.out
  rw [e1]
  obtain ⟨L, hL⟩ : ∃ L, L = inSt S 1 := ⟨_, rfl⟩
  have e2 : pickOf n S = ⟨0, 0, 0, (lastV L).k, (lastV L).i, (lastV L).f, (lastV L).t, (lastV L).a, joinS_ n L, joinL_ n L⟩ := by unfold pickOf; rw [if_neg (by rw [hA]; simp), if_neg (by rw [hB]; simp), if_pos hC, hL]
  rw [e2]
  rw [← hL] at hC
  have hL0 : 0 < L.length := List.length_pos_iff.2 hC
  have hL5 : L.length ≤ 5 := by
    rw [hL]
    have h1 : (inSt S 1).length ≤ S.length := List.length_filter_le _ _
    have := HL5.out
    omega
  have hne0 : ((L.length : Int) == 0) = false := by simp; omega
  have HB := Lib.hid hB
  have HA := Lib.hid hA
  have HL := Lib.hid hL
  have HL0 := Lib.hid hL0
  clear e1 e2 hA hB hC hL hL0
  go_enter Try.func23, Try.ntmps23
  go_wp2_with fail
  rw [← HW0.out]
  refine (isMost_any n _ _).mono ?_
  rintro e w' ⟨rfl, rfl⟩
  rw [HM.out]
  go_wp2_with fail
  refine (areReports_any n _ S _ HV.out HGR.out HS.out).mono ?_
  rintro e w1 ⟨rfl, x1⟩
  rw [HT.out]
  have X1 := Lib.hid x1
  clear x1
  go_wp2_with fail
  refine (inState_any _ S 2 _ (HV.out.ext X1.out) HL5.out).mono ?_
  rintro e w2 ⟨v2, P2, rfl, f2, p2, i2, x2⟩
  have Z2 := f2.rowz (fun x hx => (i2 x hx).ext x2)
  rw [p2, HA.out] at Z2
  obtain ⟨a2, c2, rfl, _, _, _⟩ := Z2
  have X2 := Lib.hid (X1.out.trans x2)
  clear f2 p2 i2 x2 X1
  go_wp2_with fail
  refine (areFirst_any _ S _ (HV.out.ext X2.out) HPOS.out HLL.out).mono ?_
  rintro e w3 ⟨rfl, x3⟩
  rw [HB.out]
  have X3 := Lib.hid (X2.out.trans x3)
  clear x3 X2
  go_wp2_with fail
  refine (inState_any _ S 1 _ (HV.out.ext X3.out) HL5.out).mono ?_
  rintro e w4 ⟨v4, P4, rfl, f4, p4, i4, x4⟩
  have Z4 := f4.rowz (fun x hx => (i4 x hx).ext x4)
  rw [p4, ← HL.out] at Z4
  have HZ4 := Lib.hid Z4
  obtain ⟨a4, c4, rfl, hl4, _, hc4⟩ := Z4
  unfold maxLen at hl4
  have HC4 := Lib.hid hc4
  have X4 := Lib.hid (X3.out.trans x4)
  clear f4 p4 i4 x4 X3 hc4
  go_wp2
  go_loopw [11, 70] (fun s i wr => ∃ (k : Nat) (P : List ((Int × List Int) × Value)), k ≤ L.length ∧ i = .int .i64 k ∧ Hid (FreshA w4.heap.size wr s P) ∧ Hid (P.map Prod.fst = attrsOf (L.take k)) ∧ Hid (∀ x ∈ P, Ints w4 x.2 x.1.2) ∧ Hid (P.length ≤ k) ∧ Hid (Ext w4 wr)) (fun _ i _ => L.length - (intOf i).toNat)
  case atStart => exact ⟨0, [], Nat.zero_le _, rfl, Lib.hid (FreshA.nil _ _), Lib.hid (by simp [attrsOf]), Lib.hid (fun _ h => by simp at h), Lib.hid (by simp), Lib.hid (Ext.refl _)⟩
  case round =>
    obtain ⟨k, P, hk, rfl, HF, HP, HI, HLE, HX⟩ := hrel
    by_cases hlt : k < L.length
    · obtain ⟨b, off, rfl, dv⟩ := HC4.out (by omega)
      obtain ⟨r, hr⟩ : ∃ r, r = L[k] := ⟨_, rfl⟩
      obtain ⟨u, hu, iu⟩ := dv k hlt
      rw [← hr] at hu iu
      obtain ⟨au, cu, rfl, _, _, _⟩ := id iu
      have HE : Hid (attrsOf (L.take (k + 1)) = attrsOf (L.take k) ++ [(r.s, r.l)]) := Lib.hid (by unfold attrsOf; rw [List.take_succ_eq_append_getElem hlt, List.map_append, hr]; rfl)
      have HLT := Lib.hid hlt
      obtain ⟨g0, g1, g2, g3, g4, g5, g6, g7, g8, g9⟩ := hu.ext HX.out
      have xa : Ext wr ((wr.alloc (.cells #[.int .i64 r.b, .int .i64 r.v, .int .i64 r.st, .int .i64 r.k, .int .i64 r.i, .int .i64 r.f, .int .i64 r.t, .int .i64 r.a, .int .i64 r.s, .slice au r.l.length cu] 71)).alloc (.cells #[.int .i64 r.s, .slice au r.l.length cu] 39)) := (Ext.alloc1 _ _).alloc _
      have F3 := Lib.hid (HF.out.ext xa)
      have X3 := Lib.hid (HX.out.trans xa)
      have IA := Lib.hid (fun x (hx : x ∈ P ++ [((r.s, r.l), Value.slice au r.l.length cu)]) => (show Ints w4 x.2 x.1.2 from by
        rcases List.mem_append.1 hx with h | h
        · exact HI.out x h
        · rw [List.mem_singleton] at h
          subst h
          exact iu))
      have HPL : Hid (P.length ≤ 1048576) := Lib.hid (by have := HLE.out; omega)
      have HP2 : Hid ((P ++ [((r.s, r.l), Value.slice au r.l.length cu)]).map Prod.fst = attrsOf (L.take (k + 1))) := Lib.hid (by rw [HE.out, List.map_append, HP.out]; rfl)
      have HL2 : Hid ((P ++ [((r.s, r.l), Value.slice au r.l.length cu)]).length ≤ k + 1) := Lib.hid (by have := HLE.out; simp; omega)
      clear dv hr hu iu xa HF HI HP
      go_wp2_with (at_builtin; refine wpList_pushA rfl _ _ rfl w4.heap.size _ P (r.s, r.l) au r.l.length cu rfl F3.out (wr.heap.size + 1) 1 rfl (by go_simp) (by go_simp) HPL.out X3.out.size ?_; intro v' w5 f5 hg5 hk5)
      have X5 := Lib.hid (hk5 w4 X3.out (Nat.le_refl _))
      have F5 := Lib.hid f5
      clear f5 hg5 hk5 F3 X3 g0 g1 g2 g3 g4 g5 g6 g7 g8 g9
      go_wp2
      go_roundw
      case rel => exact ⟨k + 1, _, by have := HLT.out; omega, by go_num, F5, HP2, IA, HL2, X5⟩
      case measure => simp [intOf]; have := HLT.out; omega
    · obtain rfl : k = L.length := by omega
      have HPA := HP.out
      rw [List.take_length] at HPA
      have AT := HF.out.attrs (fun x hx => (HI.out x hx).ext HX.out)
      rw [HPA] at AT
      have HAT := Lib.hid AT
      have X5 := Lib.hid (X4.out.trans HX.out)
      have HZ5 := Lib.hid (HZ4.out.ext HX.out)
      clear HPA AT HF HP HI HX HZ4 HC4
      go_wp2_with fail
      refine (lastVote_any _ L _ HZ5.out HL0.out).mono ?_
      rintro e w6 ⟨am, cm, rfl, im, x6⟩
      obtain ⟨m, hm⟩ : ∃ m, m = lastV L := ⟨_, rfl⟩
      rw [← hm]
      have HMM := Lib.hid hm
      have X6 := Lib.hid (X5.out.trans x6)
      have A6 := Lib.hid (HAT.out.ext x6)
      have hfd := fun W => field_rowC m.b m.v m.st m.k m.i m.f m.t m.a m.s (.slice am m.l.length cm) W
      clear hm im x6 X5 HAT HZ5
      go_wp2_with fail
      refine (joinN_any n HGR.out L _ _ A6.out).mono ?_
      rintro e W ⟨z, rfl, f9, x9⟩
      obtain ⟨az, cz, rfl⟩ := f9.form
      obtain ⟨⟨c0, c1, c2', c3, c4'⟩, ⟨z0, z1, z2, z3, z4⟩, ⟨a0, a1⟩, y0, y1⟩ := R0.out.ext (X6.out.trans x9)
      have F9 := Lib.hid f9
      have hsz : w.heap.size + 1 < w6.heap.size := Nat.lt_of_lt_of_le (World.block_lt_of_cell? w0 _ R0.out.attr.1.1) X6.out.size
      have hx := X0.out.trans (X6.out.trans x9)
      clear f9 x9
      go_wp2
      refine bodyPost_ret (v := .tuple #[.int .i64 2, .agg #[.int .i64 m.k, .int .i64 m.i, .int .i64 m.f, .int .i64 m.t, .int .i64 m.a], .agg #[.int .i64 (joinS_ n L), .slice az (joinL_ n L).length cz], .bool true]) (by simp [results, Try.results23, go_sem, c0, c1, c2', c3, c4', a0, a1]) rfl ⟨_, by rw [HMM.out], ?_, ?_⟩
      · exact (((((((F9.out.set _ _ _ (by omega)).set _ _ _ (by omega)).set _ _ _ (by omega)).set _ _ _ (by omega)).set _ _ _ (by omega)).set _ _ _ (by omega)).set _ _ _ (by omega)).more (by omega)
      · exact ((((((hx.setc (by dsimp only; omega)).setc (by dsimp only; omega)).setc (by dsimp only; omega)).setc (by dsimp only; omega)).setc (by dsimp only; omega)).setc (by dsimp only; omega)).setc (by dsimp only; omega)

theorem implChoose_any (n : Int) (v : Value) (S : List RowD) (w : World) (hv : Rowz w v S) (hs : bulkR S ≤ 1099511627776) :
    Calls Try.prog 23 #[.int .i64 n, v] w (FourW (wayR n S) (pickR n S) (chooseOk n S) w) := by
  cases hk : chooseOk n S with
  | false => exact implChoose_no n v S w hv hs hk
  | true =>
    by_cases hA : inSt S 2 = []
    · cases hB : alike S S.length with
      | true => exact implChoose_like n v S w hv hs hk hA hB
      | false =>
        by_cases hC : inSt S 1 = []
        · exact implChoose_none n v S w hv hs hk hA hB hC
        · exact implChoose_pre n v S w hv hs hk hA hB hC
    · exact implChoose_acc n v S w hv hs hk hA
end Go.Proofs.Ythnoeknalpnadaa
