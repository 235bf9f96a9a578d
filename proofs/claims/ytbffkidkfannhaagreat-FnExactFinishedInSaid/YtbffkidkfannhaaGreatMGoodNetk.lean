/- Texts of this proof, part k: words, plain facts, contracts. -/
import Derived.Test.YtbffkidkfannhaaGreatMGoodNetg
import Derived.Test.YtbffkidkfannhaaGreatMGoodNetc
import Derived.Test.YtbffkidkfannhaaGreatMGoodNetf
import Derived.Deep.Quiet
import Derived.Test.YtbffkidkfannhaaGreatMGoodNetj
import Derived.Test.YtbffkidkfannhaaGreatMGoodNeth

namespace Go.Proofs.YtbffkidkfannhaaGreat
open Go.RowKit
set_option linter.unusedVariables false

set_option maxHeartbeats 2000000 in
set_option maxRecDepth 100000 in
theorem numbersOf_any (r : MsgD) (u : Value) (w : World) :
    Calls Tryz.prog 124 #[.agg #[.int .i64 r.kd, .int .i64 r.fr, .int .i64 r.tt, .int .i64 r.rp, .int .i64 r.no, .int .i64 r.b, .int .i64 r.v, .int .i64 r.st, .int .i64 r.k, .int .i64 r.i, .int .i64 r.f, .int .i64 r.t, .int .i64 r.a, .int .i64 r.s, u]] w fun e w' => e = .returned (.agg #[.int .i64 r.kd, .int .i64 r.fr, .int .i64 r.tt, .int .i64 r.rp, .int .i64 r.no, .int .i64 r.b, .int .i64 r.v, .int .i64 r.st]) ∧ Ext w w' := by
  go_enter Tryz.func124, Tryz.ntmps124
  go_wp2
  exact bodyPost_ret (v := .agg #[.int .i64 r.kd, .int .i64 r.fr, .int .i64 r.tt, .int .i64 r.rp, .int .i64 r.no, .int .i64 r.b, .int .i64 r.v, .int .i64 r.st]) (by simp [results, Tryz.results124, go_sem]) rfl ⟨rfl, by repeat (first | exact Ext.refl _ | apply Ext.drew | apply Ext.alloc)⟩

set_option maxHeartbeats 8000000 in
set_option maxRecDepth 100000 in
theorem implSameMsg_any (r d : MsgD) (u v : Value) (w : World) (hu : Ints w u r.l) (hv : Ints w v d.l) (hs : r.l.length ≤ 1099511627776) :
    Calls Tryz.prog 100 #[.agg #[.int .i64 r.kd, .int .i64 r.fr, .int .i64 r.tt, .int .i64 r.rp, .int .i64 r.no, .int .i64 r.b, .int .i64 r.v, .int .i64 r.st, .int .i64 r.k, .int .i64 r.i, .int .i64 r.f, .int .i64 r.t, .int .i64 r.a, .int .i64 r.s, u], .agg #[.int .i64 d.kd, .int .i64 d.fr, .int .i64 d.tt, .int .i64 d.rp, .int .i64 d.no, .int .i64 d.b, .int .i64 d.v, .int .i64 d.st, .int .i64 d.k, .int .i64 d.i, .int .i64 d.f, .int .i64 d.t, .int .i64 d.a, .int .i64 d.s, v]] w (BoolExt (sameM r d) w) := by
  have h2 := two_msgs w 77 77 r d u v
  obtain ⟨wb, hwb⟩ : ∃ wb, wb = (w.alloc (.cells #[.int .i64 r.kd, .int .i64 r.fr, .int .i64 r.tt, .int .i64 r.rp, .int .i64 r.no, .int .i64 r.b, .int .i64 r.v, .int .i64 r.st, .int .i64 r.k, .int .i64 r.i, .int .i64 r.f, .int .i64 r.t, .int .i64 r.a, .int .i64 r.s, u] 77)).alloc (.cells #[.int .i64 d.kd, .int .i64 d.fr, .int .i64 d.tt, .int .i64 d.rp, .int .i64 d.no, .int .i64 d.b, .int .i64 d.v, .int .i64 d.st, .int .i64 d.k, .int .i64 d.i, .int .i64 d.f, .int .i64 d.t, .int .i64 d.a, .int .i64 d.s, v] 77) := ⟨_, rfl⟩
  have xb : Ext w wb := by rw [hwb]; exact Ext.alloc2 _ _ _
  rw [← hwb] at h2
  have HWB := Lib.hid hwb
  obtain ⟨⟨p0, p1, p2, p3, p4, p5, p6, p7, p8, p9, p10, p11, p12, p13, p14⟩, ⟨q0, q1, q2, q3, q4, q5, q6, q7, q8, q9, q10, q11, q12, q13, q14⟩⟩ := h2
  have p0 := fun E : ExtOf wb => E.cell p0
  have p1 := fun E : ExtOf wb => E.cell p1
  have p2 := fun E : ExtOf wb => E.cell p2
  have p3 := fun E : ExtOf wb => E.cell p3
  have p4 := fun E : ExtOf wb => E.cell p4
  have p5 := fun E : ExtOf wb => E.cell p5
  have p6 := fun E : ExtOf wb => E.cell p6
  have p7 := fun E : ExtOf wb => E.cell p7
  have p8 := fun E : ExtOf wb => E.cell p8
  have p9 := fun E : ExtOf wb => E.cell p9
  have p10 := fun E : ExtOf wb => E.cell p10
  have p11 := fun E : ExtOf wb => E.cell p11
  have p12 := fun E : ExtOf wb => E.cell p12
  have p13 := fun E : ExtOf wb => E.cell p13
  have p14 := fun E : ExtOf wb => E.cell p14
  have q0 := fun E : ExtOf wb => E.cell q0
  have q1 := fun E : ExtOf wb => E.cell q1
  have q2 := fun E : ExtOf wb => E.cell q2
  have q3 := fun E : ExtOf wb => E.cell q3
  have q4 := fun E : ExtOf wb => E.cell q4
  have q5 := fun E : ExtOf wb => E.cell q5
  have q6 := fun E : ExtOf wb => E.cell q6
  have q7 := fun E : ExtOf wb => E.cell q7
  have q8 := fun E : ExtOf wb => E.cell q8
  have q9 := fun E : ExtOf wb => E.cell q9
  have q10 := fun E : ExtOf wb => E.cell q10
  have q11 := fun E : ExtOf wb => E.cell q11
  have q12 := fun E : ExtOf wb => E.cell q12
  have q13 := fun E : ExtOf wb => E.cell q13
  have q14 := fun E : ExtOf wb => E.cell q14
  have cN : ∀ E : ExtOf wb, Calls Tryz.prog 124 #[.agg #[.int .i64 r.kd, .int .i64 r.fr, .int .i64 r.tt, .int .i64 r.rp, .int .i64 r.no, .int .i64 r.b, .int .i64 r.v, .int .i64 r.st, .int .i64 r.k, .int .i64 r.i, .int .i64 r.f, .int .i64 r.t, .int .i64 r.a, .int .i64 r.s, u]] E.1 (fun x w' => x = .returned (.agg #[.int .i64 r.kd, .int .i64 r.fr, .int .i64 r.tt, .int .i64 r.rp, .int .i64 r.no, .int .i64 r.b, .int .i64 r.v, .int .i64 r.st]) ∧ Ext E.1 w') := fun E => numbersOf_any _ _ _
  have cM : ∀ E : ExtOf wb, Calls Tryz.prog 124 #[.agg #[.int .i64 d.kd, .int .i64 d.fr, .int .i64 d.tt, .int .i64 d.rp, .int .i64 d.no, .int .i64 d.b, .int .i64 d.v, .int .i64 d.st, .int .i64 d.k, .int .i64 d.i, .int .i64 d.f, .int .i64 d.t, .int .i64 d.a, .int .i64 d.s, v]] E.1 (fun x w' => x = .returned (.agg #[.int .i64 d.kd, .int .i64 d.fr, .int .i64 d.tt, .int .i64 d.rp, .int .i64 d.no, .int .i64 d.b, .int .i64 d.v, .int .i64 d.st]) ∧ Ext E.1 w') := fun E => numbersOf_any _ _ _
  obtain ⟨bb, hbb⟩ : ∃ bb, bb = sameA r.s d.s r.l d.l := ⟨_, rfl⟩
  have cS : ∀ E : ExtOf wb, Calls Tryz.prog 120 #[.agg #[.int .i64 r.s, u], .agg #[.int .i64 d.s, v]] E.1 (fun x w' => x = .returned (.bool bb) ∧ Ext E.1 w') := fun E => by
    rw [hbb]
    exact implSame_any _ _ _ _ r.l d.l _ ((hu.ext xb).ext E.2) ((hv.ext xb).ext E.2) hs
  have h8 := fun W => eq_eight r d W
  have h5 := fun W => eq_cmd r.k r.i r.f r.t r.a d.k d.i d.f d.t d.a W
  unfold sameM
  rw [← hbb]
  clear hwb hu hv hs hbb
  cases hH : sameH r d
  · rw [hH] at h8
    clear hH
    go_enter Tryz.func100, Tryz.ntmps100
    go_wp2_with fail
    rw [← HWB.out]
    refine wp_region_ext_lit (by kernel_rfl) (by kernel_rfl) ?_
    repeat (go_big_quiet_step (first | (go_at_call 124; first | (with_reducible exact Calls.ext_of _ (cN _)) | (with_reducible exact Calls.ext_of _ (cM _))) | (go_at_call 120; with_reducible exact Calls.ext_of _ (cS _))))
    refine wpQuiet_nil ?_
    rintro _ ⟨E, rfl⟩
    clear p0 p1 p2 p3 p4 p5 p6 p7 p8 p9 p10 p11 p12 p13 p14 q0 q1 q2 q3 q4 q5 q6 q7 q8 q9 q10 q11 q12 q13 q14 cN cM cS h8 h5
    go_wp2
    go_ret
    exact ⟨rfl, xb.trans E.2⟩
  · rw [hH] at h8
    rw [Bool.true_and]
    clear hH
    cases hC : sameC r.k r.i r.f r.t r.a d.k d.i d.f d.t d.a
    · rw [hC] at h5
      clear hC
      go_enter Tryz.func100, Tryz.ntmps100
      go_wp2_with fail
      rw [← HWB.out]
      refine wp_region_ext_lit (by kernel_rfl) (by kernel_rfl) ?_
      repeat (go_big_quiet_step (first | (go_at_call 124; first | (with_reducible exact Calls.ext_of _ (cN _)) | (with_reducible exact Calls.ext_of _ (cM _))) | (go_at_call 120; with_reducible exact Calls.ext_of _ (cS _))))
      refine wpQuiet_nil ?_
      rintro _ ⟨E, rfl⟩
      clear p0 p1 p2 p3 p4 p5 p6 p7 p8 p9 p10 p11 p12 p13 p14 q0 q1 q2 q3 q4 q5 q6 q7 q8 q9 q10 q11 q12 q13 q14 cN cM cS h8 h5
      go_wp2
      go_ret
      exact ⟨rfl, xb.trans E.2⟩
    · rw [hC] at h5
      rw [Bool.true_and]
      clear hC
      cases bb with
      | false =>
        go_enter Tryz.func100, Tryz.ntmps100
        go_wp2_with fail
        rw [← HWB.out]
        refine wp_region_ext_lit (by kernel_rfl) (by kernel_rfl) ?_
        repeat (go_big_quiet_step (first | (go_at_call 124; first | (with_reducible exact Calls.ext_of _ (cN _)) | (with_reducible exact Calls.ext_of _ (cM _))) | (go_at_call 120; with_reducible exact Calls.ext_of _ (cS _))))
        refine wpQuiet_nil ?_
        rintro _ ⟨E, rfl⟩
        clear p0 p1 p2 p3 p4 p5 p6 p7 p8 p9 p10 p11 p12 p13 p14 q0 q1 q2 q3 q4 q5 q6 q7 q8 q9 q10 q11 q12 q13 q14 cN cM cS h8 h5
        go_wp2
        go_ret
        exact ⟨rfl, xb.trans E.2⟩
      | true =>
        go_enter Tryz.func100, Tryz.ntmps100
        go_wp2_with fail
        rw [← HWB.out]
        refine wp_region_ext_lit (by kernel_rfl) (by kernel_rfl) ?_
        repeat (go_big_quiet_step (first | (go_at_call 124; first | (with_reducible exact Calls.ext_of _ (cN _)) | (with_reducible exact Calls.ext_of _ (cM _))) | (go_at_call 120; with_reducible exact Calls.ext_of _ (cS _))))
        refine wpQuiet_nil ?_
        rintro _ ⟨E, rfl⟩
        clear p0 p1 p2 p3 p4 p5 p6 p7 p8 p9 p10 p11 p12 p13 p14 q0 q1 q2 q3 q4 q5 q6 q7 q8 q9 q10 q11 q12 q13 q14 cN cM cS h8 h5
        go_wp2
        go_ret
        exact ⟨rfl, xb.trans E.2⟩
end Go.Proofs.YtbffkidkfannhaaGreat

namespace Go.Proofs.YtbffkidkfannhaaGreat
open Go.RowKit
set_option linter.unusedVariables false

def ballotB (r : MsgD) : Bool := if r.kd = 5 then r.b == 0 else inB r.b 0 9999
def contB (n : Int) (r : MsgD) : Bool := if r.kd = 2 then goodA n r.s r.l else if r.kd = 7 then !(r.st == 3) && goodRow n (rowM r) else if r.kd = 4 ∨ r.kd = 6 then true else goodB r.k r.i r.f r.t r.a && goodA n r.s r.l
def goodM (n : Int) (r : MsgD) : Bool := inB r.kd 1 7 && (wayB n r && (ballotB r && (contB n r && sameM r (onlyM n r))))
theorem wayB_grp {n : Int} {r : MsgD} (h : wayB n r = true) : isGrp n = true := by
  unfold wayB repB at h
  simp only [Bool.and_eq_true] at h
  exact h.1.1.1.1
theorem meth_proposal (r : MsgD) (u : Value) (w : World) : (method 316 174 (.agg #[.int .i64 r.k, .int .i64 r.i, .int .i64 r.f, .int .i64 r.t, .int .i64 r.a, .int .i64 r.s, u]) "loop.example/g00698/impl.isGood").run Tryz.prog w = .ok (161, .agg #[.int .i64 r.k, .int .i64 r.i, .int .i64 r.f, .int .i64 r.t, .int .i64 r.a, .int .i64 r.s, u]) w := by kernel_rfl
theorem meth_opinion (r : MsgD) (u : Value) (w : World) : (method 316 176 (.agg #[.int .i64 r.s, u]) "loop.example/g00698/impl.isGood").run Tryz.prog w = .ok (162, .agg #[.int .i64 r.s, u]) w := by kernel_rfl
theorem meth_outcome (r : MsgD) (u : Value) (w : World) : (method 316 177 (.agg #[.int .i64 r.k, .int .i64 r.i, .int .i64 r.f, .int .i64 r.t, .int .i64 r.a, .int .i64 r.s, u]) "loop.example/g00698/impl.isGood").run Tryz.prog w = .ok (163, .agg #[.int .i64 r.k, .int .i64 r.i, .int .i64 r.f, .int .i64 r.t, .int .i64 r.a, .int .i64 r.s, u]) w := by kernel_rfl
theorem meth_report (r : MsgD) (u : Value) (w : World) : (method 316 179 (.agg #[.int .i64 r.b, .int .i64 r.v, .int .i64 r.st, .int .i64 r.k, .int .i64 r.i, .int .i64 r.f, .int .i64 r.t, .int .i64 r.a, .int .i64 r.s, u]) "loop.example/g00698/impl.isGood").run Tryz.prog w = .ok (136, .agg #[.int .i64 r.b, .int .i64 r.v, .int .i64 r.st, .int .i64 r.k, .int .i64 r.i, .int .i64 r.f, .int .i64 r.t, .int .i64 r.a, .int .i64 r.s, u]) w := by kernel_rfl
theorem meth_nothing (r : MsgD) (u : Value) (w : World) : (method 316 182 (.agg #[]) "loop.example/g00698/impl.isGood").run Tryz.prog w = .ok (164, .agg #[]) w := by kernel_rfl
end Go.Proofs.YtbffkidkfannhaaGreat

namespace Go.Proofs.YtbffkidkfannhaaGreat
open Go.RowKit
set_option linter.unusedVariables false

def headG (n : Int) (r : MsgD) : Bool := isGrp n && (inB r.kd 1 7 && (inB r.fr 0 (n - 1) && (inB r.tt 0 (n - 1) && (!(r.fr == r.tt) && (instB n r.rp r.no && inB r.b 0 9999)))))
def bodyG (n : Int) (r : MsgD) : Bool := r.v == 0 && (r.st == 0 && (goodD n r.s r.l && (goodB r.k r.i r.f r.t r.a && !(r.kd == 5 && !(r.b == 0)))))
def lastG (n : Int) (r : MsgD) : Bool := if r.kd = 2 then zeroC r.k r.i r.f r.t r.a else if r.kd = 4 ∨ r.kd = 6 then zeroC r.k r.i r.f r.t r.a && sameA r.s 0 r.l (noneL n) else true
def rowGm (r : MsgD) : RowD := ⟨r.b, r.v, r.st, r.k, r.i, r.f, r.t, r.a, r.s, r.l⟩
def goodGm (n : Int) (r : MsgD) : Bool := headG n r && if r.kd = 7 then !(r.st == 3) && goodRow n (rowGm r) else bodyG n r && lastG n r

set_option maxHeartbeats 4000000 in
set_option maxRecDepth 100000 in
theorem specGoodMsg_head (n : Int) (r : MsgD) (u : Value) (w : World) (h : headG n r = false) :
    Calls Tryz.prog 36 #[.int .i64 n, .agg #[.int .i64 r.kd, .int .i64 r.fr, .int .i64 r.tt, .int .i64 r.rp, .int .i64 r.no, .int .i64 r.b, .int .i64 r.v, .int .i64 r.st, .int .i64 r.k, .int .i64 r.i, .int .i64 r.f, .int .i64 r.t, .int .i64 r.a, .int .i64 r.s, u]] w (BoolExt false w) := by
  unfold headG at h
  cases g0 : isGrp n with
  | false =>
    clear h
    go_enter Tryz.func36, Tryz.ntmps36
    go_wp2_with (first | (go_at_call 33; refine (specIsGroup_any _ _).mono ?_; rintro e w' ⟨rfl, rfl⟩) | (go_at_call 41; refine (l1In_any _ _ _ _).mono ?_; rintro e w' ⟨rfl, rfl⟩))
    go_ret
    exact ⟨rfl, Ext.alloc1 _ _⟩
  | true =>
    cases g1 : inB r.kd 1 7 with
    | false =>
      clear h
      have hn3 : 3 ≤ n := (isGrp_bd g0).1
      have hn5 : n ≤ 5 := (isGrp_bd g0).2
      go_enter Tryz.func36, Tryz.ntmps36
      go_wp2_with (first | (go_at_call 33; refine (specIsGroup_any _ _).mono ?_; rintro e w' ⟨rfl, rfl⟩) | (go_at_call 41; refine (l1In_any _ _ _ _).mono ?_; rintro e w' ⟨rfl, rfl⟩))
      go_ret
      exact ⟨rfl, Ext.alloc1 _ _⟩
    | true =>
      cases g2 : inB r.fr 0 (n - 1) with
      | false =>
        clear h
        have hn3 : 3 ≤ n := (isGrp_bd g0).1
        have hn5 : n ≤ 5 := (isGrp_bd g0).2
        go_enter Tryz.func36, Tryz.ntmps36
        go_wp2_with (first | (go_at_call 33; refine (specIsGroup_any _ _).mono ?_; rintro e w' ⟨rfl, rfl⟩) | (go_at_call 41; refine (l1In_any _ _ _ _).mono ?_; rintro e w' ⟨rfl, rfl⟩))
        go_ret
        exact ⟨rfl, Ext.alloc1 _ _⟩
      | true =>
        cases g3 : inB r.tt 0 (n - 1) with
        | false =>
          clear h
          have hn3 : 3 ≤ n := (isGrp_bd g0).1
          have hn5 : n ≤ 5 := (isGrp_bd g0).2
          go_enter Tryz.func36, Tryz.ntmps36
          go_wp2_with (first | (go_at_call 33; refine (specIsGroup_any _ _).mono ?_; rintro e w' ⟨rfl, rfl⟩) | (go_at_call 41; refine (l1In_any _ _ _ _).mono ?_; rintro e w' ⟨rfl, rfl⟩))
          go_ret
          exact ⟨rfl, Ext.alloc1 _ _⟩
        | true =>
          cases g4 : (r.fr == r.tt) with
          | true =>
            clear h
            have hn3 : 3 ≤ n := (isGrp_bd g0).1
            have hn5 : n ≤ 5 := (isGrp_bd g0).2
            go_enter Tryz.func36, Tryz.ntmps36
            go_wp2_with (first | (go_at_call 33; refine (specIsGroup_any _ _).mono ?_; rintro e w' ⟨rfl, rfl⟩) | (go_at_call 41; refine (l1In_any _ _ _ _).mono ?_; rintro e w' ⟨rfl, rfl⟩))
            go_ret
            exact ⟨rfl, Ext.alloc1 _ _⟩
          | false =>
            cases g5 : instB n r.rp r.no with
            | false =>
              clear h
              have hn3 : 3 ≤ n := (isGrp_bd g0).1
              have hn5 : n ≤ 5 := (isGrp_bd g0).2
              go_enter Tryz.func36, Tryz.ntmps36
              go_wp2_with (first | (go_at_call 33; refine (specIsGroup_any _ _).mono ?_; rintro e w' ⟨rfl, rfl⟩) | (go_at_call 41; refine (l1In_any _ _ _ _).mono ?_; rintro e w' ⟨rfl, rfl⟩) | (go_at_call 61; refine (l3Inst_any _ _ _ _ hn3 hn5).mono ?_; rintro e w' ⟨rfl, rfl⟩))
              go_ret
              exact ⟨rfl, Ext.alloc1 _ _⟩
            | true =>
              have g6 : inB r.b 0 9999 = false := by rw [g0, g1, g2, g3, g4, g5] at h; simpa using h
              clear h
              have hn3 : 3 ≤ n := (isGrp_bd g0).1
              have hn5 : n ≤ 5 := (isGrp_bd g0).2
              go_enter Tryz.func36, Tryz.ntmps36
              go_wp2_with (first | (go_at_call 33; refine (specIsGroup_any _ _).mono ?_; rintro e w' ⟨rfl, rfl⟩) | (go_at_call 41; refine (l1In_any _ _ _ _).mono ?_; rintro e w' ⟨rfl, rfl⟩) | (go_at_call 61; refine (l3Inst_any _ _ _ _ hn3 hn5).mono ?_; rintro e w' ⟨rfl, rfl⟩))
              go_ret
              exact ⟨rfl, Ext.alloc1 _ _⟩

theorem headG_of {n : Int} {r : MsgD} (h : headG n r = true) : isGrp n = true ∧ inB r.kd 1 7 = true ∧ inB r.fr 0 (n - 1) = true ∧ inB r.tt 0 (n - 1) = true ∧ (r.fr == r.tt) = false ∧ instB n r.rp r.no = true ∧ inB r.b 0 9999 = true := by
  unfold headG at h
  simp only [Bool.and_eq_true, Bool.not_eq_true'] at h
  exact ⟨h.1, h.2.1, h.2.2.1, h.2.2.2.1, h.2.2.2.2.1, h.2.2.2.2.2.1, h.2.2.2.2.2.2⟩

set_option maxHeartbeats 4000000 in
set_option maxRecDepth 100000 in
theorem specGoodMsg_row (n : Int) (r : MsgD) (u : Value) (w : World) (hv : Ints w u r.l) (h : headG n r = true) (hk : r.kd = 7) :
    Calls Tryz.prog 36 #[.int .i64 n, .agg #[.int .i64 r.kd, .int .i64 r.fr, .int .i64 r.tt, .int .i64 r.rp, .int .i64 r.no, .int .i64 r.b, .int .i64 r.v, .int .i64 r.st, .int .i64 r.k, .int .i64 r.i, .int .i64 r.f, .int .i64 r.t, .int .i64 r.a, .int .i64 r.s, u]] w (BoolExt (!(r.st == 3) && goodRow n (rowGm r)) w) := by
  obtain ⟨g0, g1, g2, g3, g4, g5, g6⟩ := headG_of h
  have hn3 : 3 ≤ n := (isGrp_bd g0).1
  have hn5 : n ≤ 5 := (isGrp_bd g0).2
  have HV := Lib.hid hv
  clear h hv
  cases h3 : (r.st == 3)
  · have h3' : (r.st != 3) = true := by simpa using h3
    clear h3
    go_enter Tryz.func36, Tryz.ntmps36
    go_wp2_with (first | (go_at_call 33; refine (specIsGroup_any _ _).mono ?_; rintro e w' ⟨rfl, rfl⟩) | (go_at_call 41; refine (l1In_any _ _ _ _).mono ?_; rintro e w' ⟨rfl, rfl⟩) | (go_at_call 61; refine (l3Inst_any _ _ _ _ hn3 hn5).mono ?_; rintro e w' ⟨rfl, rfl⟩))
    refine (l4Row_any n (rowGm r) u _ (HV.out.ext (Ext.alloc2 _ _ _)) g0).mono ?_
    rintro e w1 ⟨rfl, x1⟩
    have hx := (Ext.alloc2 w _ _).trans x1
    clear x1 HV
    cases hA : goodRow n (rowGm r)
    all_goals
      have HA := Lib.hid hA
      clear hA
      go_wp2
      go_ret
      exact ⟨by rw [HA.out]; rfl, hx⟩
  · have h3' : (r.st != 3) = false := by simpa using h3
    clear h3
    go_enter Tryz.func36, Tryz.ntmps36
    go_wp2_with (first | (go_at_call 33; refine (specIsGroup_any _ _).mono ?_; rintro e w' ⟨rfl, rfl⟩) | (go_at_call 41; refine (l1In_any _ _ _ _).mono ?_; rintro e w' ⟨rfl, rfl⟩) | (go_at_call 61; refine (l3Inst_any _ _ _ _ hn3 hn5).mono ?_; rintro e w' ⟨rfl, rfl⟩))
    go_ret
    exact ⟨rfl, (Ext.alloc1 _ _).alloc _⟩

theorem cmd_behind (w : World) (o : Obj) (T : TypeId) : CmdAt ((w.alloc o).alloc (.cells #[.int .i64 0, .int .i64 0, .int .i64 0, .int .i64 0, .int .i64 0] T)) (w.heap.size + 1) 0 0 0 0 0 := by
  have h := cmdAt_new (w.alloc o) T 0 0 0 0 0
  rw [World.size_alloc] at h
  exact h

set_option maxHeartbeats 8000000 in
set_option maxRecDepth 100000 in
theorem specGoodMsg_v (n : Int) (r : MsgD) (u : Value) (w : World) (hv : Ints w u r.l) (h : headG n r = true) (e7 : (r.kd == 7) = false) (ev : (r.v != 0) = true) :
    Calls Tryz.prog 36 #[.int .i64 n, .agg #[.int .i64 r.kd, .int .i64 r.fr, .int .i64 r.tt, .int .i64 r.rp, .int .i64 r.no, .int .i64 r.b, .int .i64 r.v, .int .i64 r.st, .int .i64 r.k, .int .i64 r.i, .int .i64 r.f, .int .i64 r.t, .int .i64 r.a, .int .i64 r.s, u]] w (BoolExt false w) := by
  obtain ⟨g0, g1, g2, g3, g4, g5, g6⟩ := headG_of h
  have hn3 : 3 ≤ n := (isGrp_bd g0).1
  have hn5 : n ≤ 5 := (isGrp_bd g0).2
  obtain ⟨wb, hwb⟩ : ∃ wb, wb = (w.alloc (.cells #[.int .i64 r.kd, .int .i64 r.fr, .int .i64 r.tt, .int .i64 r.rp, .int .i64 r.no, .int .i64 r.b, .int .i64 r.v, .int .i64 r.st, .int .i64 r.k, .int .i64 r.i, .int .i64 r.f, .int .i64 r.t, .int .i64 r.a, .int .i64 r.s, u] 77)).alloc (.cells #[.int .i64 0, .int .i64 0, .int .i64 0, .int .i64 0, .int .i64 0] 73) := ⟨_, rfl⟩
  have xb : Ext w wb := by rw [hwb]; exact Ext.alloc2 _ _ _
  have hb : MsgAt wb w.heap.size r u := by rw [hwb]; exact (msgAt_new w _ r u).ext (Ext.alloc1 _ _)
  have hz : CmdAt wb (w.heap.size + 1) 0 0 0 0 0 := by rw [hwb]; exact cmd_behind _ _ _
  have HWB := Lib.hid hwb
  have HB := Lib.hid hb
  have HZ := Lib.hid hz
  have HV := Lib.hid (hv.ext xb)
  clear h hwb hb hz hv
  go_enter Tryz.func36, Tryz.ntmps36
  go_wp2_with (first | (go_at_call 33; refine (specIsGroup_any _ _).mono ?_; rintro e w' ⟨rfl, rfl⟩) | (go_at_call 41; refine (l1In_any _ _ _ _).mono ?_; rintro e w' ⟨rfl, rfl⟩) | (go_at_call 61; refine (l3Inst_any _ _ _ _ hn3 hn5).mono ?_; rintro e w' ⟨rfl, rfl⟩))
  rw [← HWB.out]
  go_ret
  exact ⟨rfl, xb⟩

set_option maxHeartbeats 8000000 in
set_option maxRecDepth 100000 in
theorem specGoodMsg_st (n : Int) (r : MsgD) (u : Value) (w : World) (hv : Ints w u r.l) (h : headG n r = true) (e7 : (r.kd == 7) = false) (ev : (r.v != 0) = false) (es : (r.st != 0) = true) :
    Calls Tryz.prog 36 #[.int .i64 n, .agg #[.int .i64 r.kd, .int .i64 r.fr, .int .i64 r.tt, .int .i64 r.rp, .int .i64 r.no, .int .i64 r.b, .int .i64 r.v, .int .i64 r.st, .int .i64 r.k, .int .i64 r.i, .int .i64 r.f, .int .i64 r.t, .int .i64 r.a, .int .i64 r.s, u]] w (BoolExt false w) := by
  obtain ⟨g0, g1, g2, g3, g4, g5, g6⟩ := headG_of h
  have hn3 : 3 ≤ n := (isGrp_bd g0).1
  have hn5 : n ≤ 5 := (isGrp_bd g0).2
  obtain ⟨wb, hwb⟩ : ∃ wb, wb = (w.alloc (.cells #[.int .i64 r.kd, .int .i64 r.fr, .int .i64 r.tt, .int .i64 r.rp, .int .i64 r.no, .int .i64 r.b, .int .i64 r.v, .int .i64 r.st, .int .i64 r.k, .int .i64 r.i, .int .i64 r.f, .int .i64 r.t, .int .i64 r.a, .int .i64 r.s, u] 77)).alloc (.cells #[.int .i64 0, .int .i64 0, .int .i64 0, .int .i64 0, .int .i64 0] 73) := ⟨_, rfl⟩
  have xb : Ext w wb := by rw [hwb]; exact Ext.alloc2 _ _ _
  have hb : MsgAt wb w.heap.size r u := by rw [hwb]; exact (msgAt_new w _ r u).ext (Ext.alloc1 _ _)
  have hz : CmdAt wb (w.heap.size + 1) 0 0 0 0 0 := by rw [hwb]; exact cmd_behind _ _ _
  have HWB := Lib.hid hwb
  have HB := Lib.hid hb
  have HZ := Lib.hid hz
  have HV := Lib.hid (hv.ext xb)
  clear h hwb hb hz hv
  go_enter Tryz.func36, Tryz.ntmps36
  go_wp2_with (first | (go_at_call 33; refine (specIsGroup_any _ _).mono ?_; rintro e w' ⟨rfl, rfl⟩) | (go_at_call 41; refine (l1In_any _ _ _ _).mono ?_; rintro e w' ⟨rfl, rfl⟩) | (go_at_call 61; refine (l3Inst_any _ _ _ _ hn3 hn5).mono ?_; rintro e w' ⟨rfl, rfl⟩))
  rw [← HWB.out]
  go_ret
  exact ⟨rfl, xb⟩

set_option maxHeartbeats 8000000 in
set_option maxRecDepth 100000 in
theorem specGoodMsg_d (n : Int) (r : MsgD) (u : Value) (w : World) (hv : Ints w u r.l) (h : headG n r = true) (e7 : (r.kd == 7) = false) (ev : (r.v != 0) = false) (es : (r.st != 0) = false) (hd : goodD n r.s r.l = false) :
    Calls Tryz.prog 36 #[.int .i64 n, .agg #[.int .i64 r.kd, .int .i64 r.fr, .int .i64 r.tt, .int .i64 r.rp, .int .i64 r.no, .int .i64 r.b, .int .i64 r.v, .int .i64 r.st, .int .i64 r.k, .int .i64 r.i, .int .i64 r.f, .int .i64 r.t, .int .i64 r.a, .int .i64 r.s, u]] w (BoolExt false w) := by
  obtain ⟨g0, g1, g2, g3, g4, g5, g6⟩ := headG_of h
  have hn3 : 3 ≤ n := (isGrp_bd g0).1
  have hn5 : n ≤ 5 := (isGrp_bd g0).2
  obtain ⟨wb, hwb⟩ : ∃ wb, wb = (w.alloc (.cells #[.int .i64 r.kd, .int .i64 r.fr, .int .i64 r.tt, .int .i64 r.rp, .int .i64 r.no, .int .i64 r.b, .int .i64 r.v, .int .i64 r.st, .int .i64 r.k, .int .i64 r.i, .int .i64 r.f, .int .i64 r.t, .int .i64 r.a, .int .i64 r.s, u] 77)).alloc (.cells #[.int .i64 0, .int .i64 0, .int .i64 0, .int .i64 0, .int .i64 0] 73) := ⟨_, rfl⟩
  have xb : Ext w wb := by rw [hwb]; exact Ext.alloc2 _ _ _
  have hb : MsgAt wb w.heap.size r u := by rw [hwb]; exact (msgAt_new w _ r u).ext (Ext.alloc1 _ _)
  have hz : CmdAt wb (w.heap.size + 1) 0 0 0 0 0 := by rw [hwb]; exact cmd_behind _ _ _
  have HWB := Lib.hid hwb
  have HB := Lib.hid hb
  have HZ := Lib.hid hz
  have HV := Lib.hid (hv.ext xb)
  clear h hwb hb hz hv
  have HD := Lib.hid hd
  clear hd
  go_enter Tryz.func36, Tryz.ntmps36
  go_wp2_with (first | (go_at_call 33; refine (specIsGroup_any _ _).mono ?_; rintro e w' ⟨rfl, rfl⟩) | (go_at_call 41; refine (l1In_any _ _ _ _).mono ?_; rintro e w' ⟨rfl, rfl⟩) | (go_at_call 61; refine (l3Inst_any _ _ _ _ hn3 hn5).mono ?_; rintro e w' ⟨rfl, rfl⟩))
  rw [← HWB.out]
  refine (l3Attr_any _ _ _ r.l _ HV.out).mono ?_
  rintro e w1 ⟨rfl, x1⟩
  rw [HD.out]
  have hx := xb.trans x1
  clear x1 xb
  go_wp2
  go_ret
  exact ⟨rfl, hx⟩

set_option maxHeartbeats 8000000 in
set_option maxRecDepth 100000 in
theorem specGoodMsg_c (n : Int) (r : MsgD) (u : Value) (w : World) (hv : Ints w u r.l) (h : headG n r = true) (e7 : (r.kd == 7) = false) (ev : (r.v != 0) = false) (es : (r.st != 0) = false) (hd : goodD n r.s r.l = true) (hc : goodB r.k r.i r.f r.t r.a = false) :
    Calls Tryz.prog 36 #[.int .i64 n, .agg #[.int .i64 r.kd, .int .i64 r.fr, .int .i64 r.tt, .int .i64 r.rp, .int .i64 r.no, .int .i64 r.b, .int .i64 r.v, .int .i64 r.st, .int .i64 r.k, .int .i64 r.i, .int .i64 r.f, .int .i64 r.t, .int .i64 r.a, .int .i64 r.s, u]] w (BoolExt false w) := by
  obtain ⟨g0, g1, g2, g3, g4, g5, g6⟩ := headG_of h
  have hn3 : 3 ≤ n := (isGrp_bd g0).1
  have hn5 : n ≤ 5 := (isGrp_bd g0).2
  obtain ⟨wb, hwb⟩ : ∃ wb, wb = (w.alloc (.cells #[.int .i64 r.kd, .int .i64 r.fr, .int .i64 r.tt, .int .i64 r.rp, .int .i64 r.no, .int .i64 r.b, .int .i64 r.v, .int .i64 r.st, .int .i64 r.k, .int .i64 r.i, .int .i64 r.f, .int .i64 r.t, .int .i64 r.a, .int .i64 r.s, u] 77)).alloc (.cells #[.int .i64 0, .int .i64 0, .int .i64 0, .int .i64 0, .int .i64 0] 73) := ⟨_, rfl⟩
  have xb : Ext w wb := by rw [hwb]; exact Ext.alloc2 _ _ _
  have hb : MsgAt wb w.heap.size r u := by rw [hwb]; exact (msgAt_new w _ r u).ext (Ext.alloc1 _ _)
  have hz : CmdAt wb (w.heap.size + 1) 0 0 0 0 0 := by rw [hwb]; exact cmd_behind _ _ _
  have HWB := Lib.hid hwb
  have HB := Lib.hid hb
  have HZ := Lib.hid hz
  have HV := Lib.hid (hv.ext xb)
  clear h hwb hb hz hv
  have HC := Lib.hid hc
  clear hc
  have HD := Lib.hid hd
  clear hd
  go_enter Tryz.func36, Tryz.ntmps36
  go_wp2_with (first | (go_at_call 33; refine (specIsGroup_any _ _).mono ?_; rintro e w' ⟨rfl, rfl⟩) | (go_at_call 41; refine (l1In_any _ _ _ _).mono ?_; rintro e w' ⟨rfl, rfl⟩) | (go_at_call 61; refine (l3Inst_any _ _ _ _ hn3 hn5).mono ?_; rintro e w' ⟨rfl, rfl⟩))
  rw [← HWB.out]
  refine (l3Attr_any _ _ _ r.l _ HV.out).mono ?_
  rintro e w1 ⟨rfl, x1⟩
  rw [HD.out]
  have hx := xb.trans x1
  obtain ⟨c0, c1, c2, c3, c4, c5, c6, c7, c8, c9, c10, c11, c12, c13, c14⟩ := HB.out.ext x1
  go_wp2_with fail
  refine (specGood_any _ _ _ _ _ _).mono ?_
  rintro e w2 ⟨rfl, x2⟩
  rw [HC.out]
  have hy := hx.trans x2
  clear x1 x2 xb hx c0 c1 c2 c3 c4 c5 c6 c7 c8 c9 c10 c11 c12 c13 c14
  go_wp2
  go_ret
  exact ⟨rfl, hy⟩

set_option maxHeartbeats 8000000 in
set_option maxRecDepth 100000 in
theorem specGoodMsg_5no (n : Int) (r : MsgD) (u : Value) (w : World) (hv : Ints w u r.l) (h : headG n r = true) (e7 : (r.kd == 7) = false) (ev : (r.v != 0) = false) (es : (r.st != 0) = false) (hd : goodD n r.s r.l = true) (hc : goodB r.k r.i r.f r.t r.a = true) (e5 : (r.kd == 5) = true) (eb : (r.b != 0) = true) :
    Calls Tryz.prog 36 #[.int .i64 n, .agg #[.int .i64 r.kd, .int .i64 r.fr, .int .i64 r.tt, .int .i64 r.rp, .int .i64 r.no, .int .i64 r.b, .int .i64 r.v, .int .i64 r.st, .int .i64 r.k, .int .i64 r.i, .int .i64 r.f, .int .i64 r.t, .int .i64 r.a, .int .i64 r.s, u]] w (BoolExt false w) := by
  obtain ⟨g0, g1, g2, g3, g4, g5, g6⟩ := headG_of h
  have hn3 : 3 ≤ n := (isGrp_bd g0).1
  have hn5 : n ≤ 5 := (isGrp_bd g0).2
  obtain ⟨wb, hwb⟩ : ∃ wb, wb = (w.alloc (.cells #[.int .i64 r.kd, .int .i64 r.fr, .int .i64 r.tt, .int .i64 r.rp, .int .i64 r.no, .int .i64 r.b, .int .i64 r.v, .int .i64 r.st, .int .i64 r.k, .int .i64 r.i, .int .i64 r.f, .int .i64 r.t, .int .i64 r.a, .int .i64 r.s, u] 77)).alloc (.cells #[.int .i64 0, .int .i64 0, .int .i64 0, .int .i64 0, .int .i64 0] 73) := ⟨_, rfl⟩
  have xb : Ext w wb := by rw [hwb]; exact Ext.alloc2 _ _ _
  have hb : MsgAt wb w.heap.size r u := by rw [hwb]; exact (msgAt_new w _ r u).ext (Ext.alloc1 _ _)
  have hz : CmdAt wb (w.heap.size + 1) 0 0 0 0 0 := by rw [hwb]; exact cmd_behind _ _ _
  have HWB := Lib.hid hwb
  have HB := Lib.hid hb
  have HZ := Lib.hid hz
  have HV := Lib.hid (hv.ext xb)
  clear h hwb hb hz hv
  have HC := Lib.hid hc
  clear hc
  have HD := Lib.hid hd
  clear hd
  go_enter Tryz.func36, Tryz.ntmps36
  go_wp2_with (first | (go_at_call 33; refine (specIsGroup_any _ _).mono ?_; rintro e w' ⟨rfl, rfl⟩) | (go_at_call 41; refine (l1In_any _ _ _ _).mono ?_; rintro e w' ⟨rfl, rfl⟩) | (go_at_call 61; refine (l3Inst_any _ _ _ _ hn3 hn5).mono ?_; rintro e w' ⟨rfl, rfl⟩))
  rw [← HWB.out]
  refine (l3Attr_any _ _ _ r.l _ HV.out).mono ?_
  rintro e w1 ⟨rfl, x1⟩
  rw [HD.out]
  have hx := xb.trans x1
  obtain ⟨c0, c1, c2, c3, c4, c5, c6, c7, c8, c9, c10, c11, c12, c13, c14⟩ := HB.out.ext x1
  go_wp2_with fail
  refine (specGood_any _ _ _ _ _ _).mono ?_
  rintro e w2 ⟨rfl, x2⟩
  rw [HC.out]
  have hy := hx.trans x2
  clear c0 c1 c2 c3 c4 c5 c6 c7 c8 c9 c10 c11 c12 c13 c14
  have M2 := Lib.hid (HB.out.ext (x1.trans x2))
  have Z2 := Lib.hid (HZ.out.ext (x1.trans x2))
  have V2 := Lib.hid (HV.out.ext (x1.trans x2))
  obtain ⟨c0, c1, c2, c3, c4, c5, c6, c7, c8, c9, c10, c11, c12, c13, c14⟩ := M2.out
  obtain ⟨z0, z1, z2, z3, z4⟩ := Z2.out
  clear x1 x2 xb hx
  go_wp2
  go_ret
  exact ⟨rfl, hy⟩

set_option maxHeartbeats 8000000 in
set_option maxRecDepth 100000 in
theorem specGoodMsg_5 (n : Int) (r : MsgD) (u : Value) (w : World) (hv : Ints w u r.l) (h : headG n r = true) (e7 : (r.kd == 7) = false) (ev : (r.v != 0) = false) (es : (r.st != 0) = false) (hd : goodD n r.s r.l = true) (hc : goodB r.k r.i r.f r.t r.a = true) (e5 : (r.kd == 5) = true) (eb : (r.b != 0) = false) (e2 : (r.kd == 2) = false) (e4 : (r.kd == 4) = false) (e6 : (r.kd == 6) = false) :
    Calls Tryz.prog 36 #[.int .i64 n, .agg #[.int .i64 r.kd, .int .i64 r.fr, .int .i64 r.tt, .int .i64 r.rp, .int .i64 r.no, .int .i64 r.b, .int .i64 r.v, .int .i64 r.st, .int .i64 r.k, .int .i64 r.i, .int .i64 r.f, .int .i64 r.t, .int .i64 r.a, .int .i64 r.s, u]] w (BoolExt true w) := by
  obtain ⟨g0, g1, g2, g3, g4, g5, g6⟩ := headG_of h
  have hn3 : 3 ≤ n := (isGrp_bd g0).1
  have hn5 : n ≤ 5 := (isGrp_bd g0).2
  obtain ⟨wb, hwb⟩ : ∃ wb, wb = (w.alloc (.cells #[.int .i64 r.kd, .int .i64 r.fr, .int .i64 r.tt, .int .i64 r.rp, .int .i64 r.no, .int .i64 r.b, .int .i64 r.v, .int .i64 r.st, .int .i64 r.k, .int .i64 r.i, .int .i64 r.f, .int .i64 r.t, .int .i64 r.a, .int .i64 r.s, u] 77)).alloc (.cells #[.int .i64 0, .int .i64 0, .int .i64 0, .int .i64 0, .int .i64 0] 73) := ⟨_, rfl⟩
  have xb : Ext w wb := by rw [hwb]; exact Ext.alloc2 _ _ _
  have hb : MsgAt wb w.heap.size r u := by rw [hwb]; exact (msgAt_new w _ r u).ext (Ext.alloc1 _ _)
  have hz : CmdAt wb (w.heap.size + 1) 0 0 0 0 0 := by rw [hwb]; exact cmd_behind _ _ _
  have HWB := Lib.hid hwb
  have HB := Lib.hid hb
  have HZ := Lib.hid hz
  have HV := Lib.hid (hv.ext xb)
  clear h hwb hb hz hv
  have HC := Lib.hid hc
  clear hc
  have HD := Lib.hid hd
  clear hd
  go_enter Tryz.func36, Tryz.ntmps36
  go_wp2_with (first | (go_at_call 33; refine (specIsGroup_any _ _).mono ?_; rintro e w' ⟨rfl, rfl⟩) | (go_at_call 41; refine (l1In_any _ _ _ _).mono ?_; rintro e w' ⟨rfl, rfl⟩) | (go_at_call 61; refine (l3Inst_any _ _ _ _ hn3 hn5).mono ?_; rintro e w' ⟨rfl, rfl⟩))
  rw [← HWB.out]
  refine (l3Attr_any _ _ _ r.l _ HV.out).mono ?_
  rintro e w1 ⟨rfl, x1⟩
  rw [HD.out]
  have hx := xb.trans x1
  obtain ⟨c0, c1, c2, c3, c4, c5, c6, c7, c8, c9, c10, c11, c12, c13, c14⟩ := HB.out.ext x1
  go_wp2_with fail
  refine (specGood_any _ _ _ _ _ _).mono ?_
  rintro e w2 ⟨rfl, x2⟩
  rw [HC.out]
  have hy := hx.trans x2
  clear c0 c1 c2 c3 c4 c5 c6 c7 c8 c9 c10 c11 c12 c13 c14
  have M2 := Lib.hid (HB.out.ext (x1.trans x2))
  have Z2 := Lib.hid (HZ.out.ext (x1.trans x2))
  have V2 := Lib.hid (HV.out.ext (x1.trans x2))
  obtain ⟨c0, c1, c2, c3, c4, c5, c6, c7, c8, c9, c10, c11, c12, c13, c14⟩ := M2.out
  obtain ⟨z0, z1, z2, z3, z4⟩ := Z2.out
  clear x1 x2 xb hx
  go_wp2
  go_ret
  exact ⟨rfl, hy⟩

set_option maxHeartbeats 8000000 in
set_option maxRecDepth 100000 in
theorem specGoodMsg_13 (n : Int) (r : MsgD) (u : Value) (w : World) (hv : Ints w u r.l) (h : headG n r = true) (e7 : (r.kd == 7) = false) (ev : (r.v != 0) = false) (es : (r.st != 0) = false) (hd : goodD n r.s r.l = true) (hc : goodB r.k r.i r.f r.t r.a = true) (e5 : (r.kd == 5) = false) (e2 : (r.kd == 2) = false) (e4 : (r.kd == 4) = false) (e6 : (r.kd == 6) = false) :
    Calls Tryz.prog 36 #[.int .i64 n, .agg #[.int .i64 r.kd, .int .i64 r.fr, .int .i64 r.tt, .int .i64 r.rp, .int .i64 r.no, .int .i64 r.b, .int .i64 r.v, .int .i64 r.st, .int .i64 r.k, .int .i64 r.i, .int .i64 r.f, .int .i64 r.t, .int .i64 r.a, .int .i64 r.s, u]] w (BoolExt true w) := by
  obtain ⟨g0, g1, g2, g3, g4, g5, g6⟩ := headG_of h
  have hn3 : 3 ≤ n := (isGrp_bd g0).1
  have hn5 : n ≤ 5 := (isGrp_bd g0).2
  obtain ⟨wb, hwb⟩ : ∃ wb, wb = (w.alloc (.cells #[.int .i64 r.kd, .int .i64 r.fr, .int .i64 r.tt, .int .i64 r.rp, .int .i64 r.no, .int .i64 r.b, .int .i64 r.v, .int .i64 r.st, .int .i64 r.k, .int .i64 r.i, .int .i64 r.f, .int .i64 r.t, .int .i64 r.a, .int .i64 r.s, u] 77)).alloc (.cells #[.int .i64 0, .int .i64 0, .int .i64 0, .int .i64 0, .int .i64 0] 73) := ⟨_, rfl⟩
  have xb : Ext w wb := by rw [hwb]; exact Ext.alloc2 _ _ _
  have hb : MsgAt wb w.heap.size r u := by rw [hwb]; exact (msgAt_new w _ r u).ext (Ext.alloc1 _ _)
  have hz : CmdAt wb (w.heap.size + 1) 0 0 0 0 0 := by rw [hwb]; exact cmd_behind _ _ _
  have HWB := Lib.hid hwb
  have HB := Lib.hid hb
  have HZ := Lib.hid hz
  have HV := Lib.hid (hv.ext xb)
  clear h hwb hb hz hv
  have HC := Lib.hid hc
  clear hc
  have HD := Lib.hid hd
  clear hd
  go_enter Tryz.func36, Tryz.ntmps36
  go_wp2_with (first | (go_at_call 33; refine (specIsGroup_any _ _).mono ?_; rintro e w' ⟨rfl, rfl⟩) | (go_at_call 41; refine (l1In_any _ _ _ _).mono ?_; rintro e w' ⟨rfl, rfl⟩) | (go_at_call 61; refine (l3Inst_any _ _ _ _ hn3 hn5).mono ?_; rintro e w' ⟨rfl, rfl⟩))
  rw [← HWB.out]
  refine (l3Attr_any _ _ _ r.l _ HV.out).mono ?_
  rintro e w1 ⟨rfl, x1⟩
  rw [HD.out]
  have hx := xb.trans x1
  obtain ⟨c0, c1, c2, c3, c4, c5, c6, c7, c8, c9, c10, c11, c12, c13, c14⟩ := HB.out.ext x1
  go_wp2_with fail
  refine (specGood_any _ _ _ _ _ _).mono ?_
  rintro e w2 ⟨rfl, x2⟩
  rw [HC.out]
  have hy := hx.trans x2
  clear c0 c1 c2 c3 c4 c5 c6 c7 c8 c9 c10 c11 c12 c13 c14
  have M2 := Lib.hid (HB.out.ext (x1.trans x2))
  have Z2 := Lib.hid (HZ.out.ext (x1.trans x2))
  have V2 := Lib.hid (HV.out.ext (x1.trans x2))
  obtain ⟨c0, c1, c2, c3, c4, c5, c6, c7, c8, c9, c10, c11, c12, c13, c14⟩ := M2.out
  obtain ⟨z0, z1, z2, z3, z4⟩ := Z2.out
  clear x1 x2 xb hx
  go_wp2
  go_ret
  exact ⟨rfl, hy⟩

set_option maxHeartbeats 8000000 in
set_option maxRecDepth 100000 in
theorem specGoodMsg_2 (n : Int) (r : MsgD) (u : Value) (w : World) (hv : Ints w u r.l) (h : headG n r = true) (e7 : (r.kd == 7) = false) (ev : (r.v != 0) = false) (es : (r.st != 0) = false) (hd : goodD n r.s r.l = true) (hc : goodB r.k r.i r.f r.t r.a = true) (e5 : (r.kd == 5) = false) (e2 : (r.kd == 2) = true) :
    Calls Tryz.prog 36 #[.int .i64 n, .agg #[.int .i64 r.kd, .int .i64 r.fr, .int .i64 r.tt, .int .i64 r.rp, .int .i64 r.no, .int .i64 r.b, .int .i64 r.v, .int .i64 r.st, .int .i64 r.k, .int .i64 r.i, .int .i64 r.f, .int .i64 r.t, .int .i64 r.a, .int .i64 r.s, u]] w (BoolExt (zeroC r.k r.i r.f r.t r.a) w) := by
  obtain ⟨g0, g1, g2, g3, g4, g5, g6⟩ := headG_of h
  have hn3 : 3 ≤ n := (isGrp_bd g0).1
  have hn5 : n ≤ 5 := (isGrp_bd g0).2
  obtain ⟨wb, hwb⟩ : ∃ wb, wb = (w.alloc (.cells #[.int .i64 r.kd, .int .i64 r.fr, .int .i64 r.tt, .int .i64 r.rp, .int .i64 r.no, .int .i64 r.b, .int .i64 r.v, .int .i64 r.st, .int .i64 r.k, .int .i64 r.i, .int .i64 r.f, .int .i64 r.t, .int .i64 r.a, .int .i64 r.s, u] 77)).alloc (.cells #[.int .i64 0, .int .i64 0, .int .i64 0, .int .i64 0, .int .i64 0] 73) := ⟨_, rfl⟩
  have xb : Ext w wb := by rw [hwb]; exact Ext.alloc2 _ _ _
  have hb : MsgAt wb w.heap.size r u := by rw [hwb]; exact (msgAt_new w _ r u).ext (Ext.alloc1 _ _)
  have hz : CmdAt wb (w.heap.size + 1) 0 0 0 0 0 := by rw [hwb]; exact cmd_behind _ _ _
  have HWB := Lib.hid hwb
  have HB := Lib.hid hb
  have HZ := Lib.hid hz
  have HV := Lib.hid (hv.ext xb)
  clear h hwb hb hz hv
  have heq := fun W => eq_zero r.k r.i r.f r.t r.a W
  cases hq : zeroC r.k r.i r.f r.t r.a
  all_goals
    rw [hq] at heq
    clear hq
    have HC := Lib.hid hc
    clear hc
    have HD := Lib.hid hd
    clear hd
    go_enter Tryz.func36, Tryz.ntmps36
    go_wp2_with (first | (go_at_call 33; refine (specIsGroup_any _ _).mono ?_; rintro e w' ⟨rfl, rfl⟩) | (go_at_call 41; refine (l1In_any _ _ _ _).mono ?_; rintro e w' ⟨rfl, rfl⟩) | (go_at_call 61; refine (l3Inst_any _ _ _ _ hn3 hn5).mono ?_; rintro e w' ⟨rfl, rfl⟩))
    rw [← HWB.out]
    refine (l3Attr_any _ _ _ r.l _ HV.out).mono ?_
    rintro e w1 ⟨rfl, x1⟩
    rw [HD.out]
    have hx := xb.trans x1
    obtain ⟨c0, c1, c2, c3, c4, c5, c6, c7, c8, c9, c10, c11, c12, c13, c14⟩ := HB.out.ext x1
    go_wp2_with fail
    refine (specGood_any _ _ _ _ _ _).mono ?_
    rintro e w2 ⟨rfl, x2⟩
    rw [HC.out]
    have hy := hx.trans x2
    clear c0 c1 c2 c3 c4 c5 c6 c7 c8 c9 c10 c11 c12 c13 c14
    have M2 := Lib.hid (HB.out.ext (x1.trans x2))
    have Z2 := Lib.hid (HZ.out.ext (x1.trans x2))
    have V2 := Lib.hid (HV.out.ext (x1.trans x2))
    obtain ⟨c0, c1, c2, c3, c4, c5, c6, c7, c8, c9, c10, c11, c12, c13, c14⟩ := M2.out
    obtain ⟨z0, z1, z2, z3, z4⟩ := Z2.out
    clear x1 x2 xb hx
    go_wp2
    go_ret
    exact ⟨rfl, hy⟩

theorem stepZ {wb W W' : World} {b b' : Nat} {r : MsgD} {u : Value} (x : Ext W W') (h : Ext wb W ∧ MsgAt W b r u ∧ CmdAt W b' 0 0 0 0 0) : Ext wb W' ∧ MsgAt W' b r u ∧ CmdAt W' b' 0 0 0 0 0 :=
  ⟨h.1.trans x, h.2.1.ext x, h.2.2.ext x⟩

set_option maxHeartbeats 8000000 in
set_option maxRecDepth 100000 in
theorem specGoodMsg_4 (n : Int) (r : MsgD) (u : Value) (w : World) (hv : Ints w u r.l) (h : headG n r = true) (e7 : (r.kd == 7) = false) (ev : (r.v != 0) = false) (es : (r.st != 0) = false) (hd : goodD n r.s r.l = true) (hc : goodB r.k r.i r.f r.t r.a = true) (e5 : (r.kd == 5) = false) (e2 : (r.kd == 2) = false) (e4 : (r.kd == 4) = true) :
    Calls Tryz.prog 36 #[.int .i64 n, .agg #[.int .i64 r.kd, .int .i64 r.fr, .int .i64 r.tt, .int .i64 r.rp, .int .i64 r.no, .int .i64 r.b, .int .i64 r.v, .int .i64 r.st, .int .i64 r.k, .int .i64 r.i, .int .i64 r.f, .int .i64 r.t, .int .i64 r.a, .int .i64 r.s, u]] w (BoolExt (zeroC r.k r.i r.f r.t r.a && sameA r.s 0 r.l (noneL n)) w) := by
  obtain ⟨g0, g1, g2, g3, g4, g5, g6⟩ := headG_of h
  have hn3 : 3 ≤ n := (isGrp_bd g0).1
  have hn5 : n ≤ 5 := (isGrp_bd g0).2
  obtain ⟨wb, hwb⟩ : ∃ wb, wb = (w.alloc (.cells #[.int .i64 r.kd, .int .i64 r.fr, .int .i64 r.tt, .int .i64 r.rp, .int .i64 r.no, .int .i64 r.b, .int .i64 r.v, .int .i64 r.st, .int .i64 r.k, .int .i64 r.i, .int .i64 r.f, .int .i64 r.t, .int .i64 r.a, .int .i64 r.s, u] 77)).alloc (.cells #[.int .i64 0, .int .i64 0, .int .i64 0, .int .i64 0, .int .i64 0] 73) := ⟨_, rfl⟩
  have xb : Ext w wb := by rw [hwb]; exact Ext.alloc2 _ _ _
  have hb : MsgAt wb w.heap.size r u := by rw [hwb]; exact (msgAt_new w _ r u).ext (Ext.alloc1 _ _)
  have hz : CmdAt wb (w.heap.size + 1) 0 0 0 0 0 := by rw [hwb]; exact cmd_behind _ _ _
  have HWB := Lib.hid hwb
  have HB := Lib.hid hb
  have HZ := Lib.hid hz
  have HV := Lib.hid (hv.ext xb)
  clear h hwb hb hz hv
  have heq := fun W => eq_zero r.k r.i r.f r.t r.a W
  have HN := Lib.hid g0
  cases hq : zeroC r.k r.i r.f r.t r.a
  · rw [hq] at heq
    clear hq
    have HC := Lib.hid hc
    clear hc
    have HD := Lib.hid hd
    clear hd
    go_enter Tryz.func36, Tryz.ntmps36
    go_wp2_with (first | (go_at_call 33; refine (specIsGroup_any _ _).mono ?_; rintro e w' ⟨rfl, rfl⟩) | (go_at_call 41; refine (l1In_any _ _ _ _).mono ?_; rintro e w' ⟨rfl, rfl⟩) | (go_at_call 61; refine (l3Inst_any _ _ _ _ hn3 hn5).mono ?_; rintro e w' ⟨rfl, rfl⟩))
    rw [← HWB.out]
    refine (l3Attr_any _ _ _ r.l _ HV.out).mono ?_
    rintro e w1 ⟨rfl, x1⟩
    rw [HD.out]
    have hx := xb.trans x1
    obtain ⟨c0, c1, c2, c3, c4, c5, c6, c7, c8, c9, c10, c11, c12, c13, c14⟩ := HB.out.ext x1
    go_wp2_with fail
    refine (specGood_any _ _ _ _ _ _).mono ?_
    rintro e w2 ⟨rfl, x2⟩
    rw [HC.out]
    have hy := hx.trans x2
    clear c0 c1 c2 c3 c4 c5 c6 c7 c8 c9 c10 c11 c12 c13 c14
    have M2 := Lib.hid (HB.out.ext (x1.trans x2))
    have Z2 := Lib.hid (HZ.out.ext (x1.trans x2))
    have V2 := Lib.hid (HV.out.ext (x1.trans x2))
    obtain ⟨c0, c1, c2, c3, c4, c5, c6, c7, c8, c9, c10, c11, c12, c13, c14⟩ := M2.out
    obtain ⟨z0, z1, z2, z3, z4⟩ := Z2.out
    clear x1 x2 xb hx
    go_wp2_with fail
    go_quiet (fail)
    go_wp2
    go_ret
    exact ⟨rfl, by repeat (first | exact hy | apply Ext.drewN)⟩
  · rw [hq] at heq
    rw [Bool.true_and]
    clear hq
    have HC := Lib.hid hc
    clear hc
    have HD := Lib.hid hd
    clear hd
    go_enter Tryz.func36, Tryz.ntmps36
    go_wp2_with (first | (go_at_call 33; refine (specIsGroup_any _ _).mono ?_; rintro e w' ⟨rfl, rfl⟩) | (go_at_call 41; refine (l1In_any _ _ _ _).mono ?_; rintro e w' ⟨rfl, rfl⟩) | (go_at_call 61; refine (l3Inst_any _ _ _ _ hn3 hn5).mono ?_; rintro e w' ⟨rfl, rfl⟩))
    rw [← HWB.out]
    refine (l3Attr_any _ _ _ r.l _ HV.out).mono ?_
    rintro e w1 ⟨rfl, x1⟩
    rw [HD.out]
    have hx := xb.trans x1
    obtain ⟨c0, c1, c2, c3, c4, c5, c6, c7, c8, c9, c10, c11, c12, c13, c14⟩ := HB.out.ext x1
    go_wp2_with fail
    refine (specGood_any _ _ _ _ _ _).mono ?_
    rintro e w2 ⟨rfl, x2⟩
    rw [HC.out]
    have hy := hx.trans x2
    clear c0 c1 c2 c3 c4 c5 c6 c7 c8 c9 c10 c11 c12 c13 c14
    have M2 := Lib.hid (HB.out.ext (x1.trans x2))
    have Z2 := Lib.hid (HZ.out.ext (x1.trans x2))
    have V2 := Lib.hid (HV.out.ext (x1.trans x2))
    obtain ⟨c0, c1, c2, c3, c4, c5, c6, c7, c8, c9, c10, c11, c12, c13, c14⟩ := M2.out
    obtain ⟨z0, z1, z2, z3, z4⟩ := Z2.out
    clear x1 x2 xb hx
    have MZ := Lib.hid (And.intro M2.out Z2.out)
  
    go_wp2_with fail
    go_region_held3 (fun W => Ext w2 W ∧ (W.cell? ⟨w.heap.size, 0, none⟩ = some (.int .i64 r.kd) ∧ W.cell? ⟨w.heap.size, 1, none⟩ = some (.int .i64 r.fr) ∧ W.cell? ⟨w.heap.size, 2, none⟩ = some (.int .i64 r.tt) ∧ W.cell? ⟨w.heap.size, 3, none⟩ = some (.int .i64 r.rp) ∧ W.cell? ⟨w.heap.size, 4, none⟩ = some (.int .i64 r.no) ∧ W.cell? ⟨w.heap.size, 5, none⟩ = some (.int .i64 r.b) ∧ W.cell? ⟨w.heap.size, 6, none⟩ = some (.int .i64 r.v) ∧ W.cell? ⟨w.heap.size, 7, none⟩ = some (.int .i64 r.st) ∧ W.cell? ⟨w.heap.size, 8, none⟩ = some (.int .i64 r.k) ∧ W.cell? ⟨w.heap.size, 9, none⟩ = some (.int .i64 r.i) ∧ W.cell? ⟨w.heap.size, 10, none⟩ = some (.int .i64 r.f) ∧ W.cell? ⟨w.heap.size, 11, none⟩ = some (.int .i64 r.t) ∧ W.cell? ⟨w.heap.size, 12, none⟩ = some (.int .i64 r.a) ∧ W.cell? ⟨w.heap.size, 13, none⟩ = some (.int .i64 r.s) ∧ W.cell? ⟨w.heap.size, 14, none⟩ = some u) ∧ (W.cell? ⟨w.heap.size + 1, 0, none⟩ = some (.int .i64 0) ∧ W.cell? ⟨w.heap.size + 1, 1, none⟩ = some (.int .i64 0) ∧ W.cell? ⟨w.heap.size + 1, 2, none⟩ = some (.int .i64 0) ∧ W.cell? ⟨w.heap.size + 1, 3, none⟩ = some (.int .i64 0) ∧ W.cell? ⟨w.heap.size + 1, 4, none⟩ = some (.int .i64 0))) (first | (exact stepZ (b := w.heap.size) (b' := w.heap.size + 1) (r := r) (u := u) (by assumption) (by assumption)) | (exact ⟨Ext.drew (Ext.refl _), MZ.out⟩)) (first | (go_at_call 68; refine (l3None_any n _ HN.out).mono ?_; rintro e W ⟨z, rfl, f9, x9⟩; obtain ⟨az, cz, rfl⟩ := f9.form) | (go_at_call 67; refine (specSame_any _ _ _ _ r.l (noneL n) _ (V2.out.ext (And.left (by assumption))) (Fresh.ints (by assumption))).mono ?_; rintro e W ⟨rfl, x8⟩))
    rename_i hH
    have hw := hy.trans hH.1
    clear hH
    cases hs : sameA r.s 0 r.l (noneL n)
    all_goals
      have HS := Lib.hid hs
      clear hs
      go_wp2
      go_ret
      exact ⟨by rw [HS.out]; rfl, hw⟩

set_option maxHeartbeats 8000000 in
set_option maxRecDepth 100000 in
theorem specGoodMsg_6 (n : Int) (r : MsgD) (u : Value) (w : World) (hv : Ints w u r.l) (h : headG n r = true) (e7 : (r.kd == 7) = false) (ev : (r.v != 0) = false) (es : (r.st != 0) = false) (hd : goodD n r.s r.l = true) (hc : goodB r.k r.i r.f r.t r.a = true) (e5 : (r.kd == 5) = false) (e2 : (r.kd == 2) = false) (e4 : (r.kd == 4) = false) (e6 : (r.kd == 6) = true) :
    Calls Tryz.prog 36 #[.int .i64 n, .agg #[.int .i64 r.kd, .int .i64 r.fr, .int .i64 r.tt, .int .i64 r.rp, .int .i64 r.no, .int .i64 r.b, .int .i64 r.v, .int .i64 r.st, .int .i64 r.k, .int .i64 r.i, .int .i64 r.f, .int .i64 r.t, .int .i64 r.a, .int .i64 r.s, u]] w (BoolExt (zeroC r.k r.i r.f r.t r.a && sameA r.s 0 r.l (noneL n)) w) := by
  obtain ⟨g0, g1, g2, g3, g4, g5, g6⟩ := headG_of h
  have hn3 : 3 ≤ n := (isGrp_bd g0).1
  have hn5 : n ≤ 5 := (isGrp_bd g0).2
  obtain ⟨wb, hwb⟩ : ∃ wb, wb = (w.alloc (.cells #[.int .i64 r.kd, .int .i64 r.fr, .int .i64 r.tt, .int .i64 r.rp, .int .i64 r.no, .int .i64 r.b, .int .i64 r.v, .int .i64 r.st, .int .i64 r.k, .int .i64 r.i, .int .i64 r.f, .int .i64 r.t, .int .i64 r.a, .int .i64 r.s, u] 77)).alloc (.cells #[.int .i64 0, .int .i64 0, .int .i64 0, .int .i64 0, .int .i64 0] 73) := ⟨_, rfl⟩
  have xb : Ext w wb := by rw [hwb]; exact Ext.alloc2 _ _ _
  have hb : MsgAt wb w.heap.size r u := by rw [hwb]; exact (msgAt_new w _ r u).ext (Ext.alloc1 _ _)
  have hz : CmdAt wb (w.heap.size + 1) 0 0 0 0 0 := by rw [hwb]; exact cmd_behind _ _ _
  have HWB := Lib.hid hwb
  have HB := Lib.hid hb
  have HZ := Lib.hid hz
  have HV := Lib.hid (hv.ext xb)
  clear h hwb hb hz hv
  have heq := fun W => eq_zero r.k r.i r.f r.t r.a W
  have HN := Lib.hid g0
  cases hq : zeroC r.k r.i r.f r.t r.a
  · rw [hq] at heq
    clear hq
    have HC := Lib.hid hc
    clear hc
    have HD := Lib.hid hd
    clear hd
    go_enter Tryz.func36, Tryz.ntmps36
    go_wp2_with (first | (go_at_call 33; refine (specIsGroup_any _ _).mono ?_; rintro e w' ⟨rfl, rfl⟩) | (go_at_call 41; refine (l1In_any _ _ _ _).mono ?_; rintro e w' ⟨rfl, rfl⟩) | (go_at_call 61; refine (l3Inst_any _ _ _ _ hn3 hn5).mono ?_; rintro e w' ⟨rfl, rfl⟩))
    rw [← HWB.out]
    refine (l3Attr_any _ _ _ r.l _ HV.out).mono ?_
    rintro e w1 ⟨rfl, x1⟩
    rw [HD.out]
    have hx := xb.trans x1
    obtain ⟨c0, c1, c2, c3, c4, c5, c6, c7, c8, c9, c10, c11, c12, c13, c14⟩ := HB.out.ext x1
    go_wp2_with fail
    refine (specGood_any _ _ _ _ _ _).mono ?_
    rintro e w2 ⟨rfl, x2⟩
    rw [HC.out]
    have hy := hx.trans x2
    clear c0 c1 c2 c3 c4 c5 c6 c7 c8 c9 c10 c11 c12 c13 c14
    have M2 := Lib.hid (HB.out.ext (x1.trans x2))
    have Z2 := Lib.hid (HZ.out.ext (x1.trans x2))
    have V2 := Lib.hid (HV.out.ext (x1.trans x2))
    obtain ⟨c0, c1, c2, c3, c4, c5, c6, c7, c8, c9, c10, c11, c12, c13, c14⟩ := M2.out
    obtain ⟨z0, z1, z2, z3, z4⟩ := Z2.out
    clear x1 x2 xb hx
    go_wp2_with fail
    go_quiet (fail)
    go_wp2
    go_ret
    exact ⟨rfl, by repeat (first | exact hy | apply Ext.drewN)⟩
  · rw [hq] at heq
    rw [Bool.true_and]
    clear hq
    have HC := Lib.hid hc
    clear hc
    have HD := Lib.hid hd
    clear hd
    go_enter Tryz.func36, Tryz.ntmps36
    go_wp2_with (first | (go_at_call 33; refine (specIsGroup_any _ _).mono ?_; rintro e w' ⟨rfl, rfl⟩) | (go_at_call 41; refine (l1In_any _ _ _ _).mono ?_; rintro e w' ⟨rfl, rfl⟩) | (go_at_call 61; refine (l3Inst_any _ _ _ _ hn3 hn5).mono ?_; rintro e w' ⟨rfl, rfl⟩))
    rw [← HWB.out]
    refine (l3Attr_any _ _ _ r.l _ HV.out).mono ?_
    rintro e w1 ⟨rfl, x1⟩
    rw [HD.out]
    have hx := xb.trans x1
    obtain ⟨c0, c1, c2, c3, c4, c5, c6, c7, c8, c9, c10, c11, c12, c13, c14⟩ := HB.out.ext x1
    go_wp2_with fail
    refine (specGood_any _ _ _ _ _ _).mono ?_
    rintro e w2 ⟨rfl, x2⟩
    rw [HC.out]
    have hy := hx.trans x2
    clear c0 c1 c2 c3 c4 c5 c6 c7 c8 c9 c10 c11 c12 c13 c14
    have M2 := Lib.hid (HB.out.ext (x1.trans x2))
    have Z2 := Lib.hid (HZ.out.ext (x1.trans x2))
    have V2 := Lib.hid (HV.out.ext (x1.trans x2))
    obtain ⟨c0, c1, c2, c3, c4, c5, c6, c7, c8, c9, c10, c11, c12, c13, c14⟩ := M2.out
    obtain ⟨z0, z1, z2, z3, z4⟩ := Z2.out
    clear x1 x2 xb hx
    have MZ := Lib.hid (And.intro M2.out Z2.out)
  
    go_wp2_with fail
    go_region_held3 (fun W => Ext w2 W ∧ (W.cell? ⟨w.heap.size, 0, none⟩ = some (.int .i64 r.kd) ∧ W.cell? ⟨w.heap.size, 1, none⟩ = some (.int .i64 r.fr) ∧ W.cell? ⟨w.heap.size, 2, none⟩ = some (.int .i64 r.tt) ∧ W.cell? ⟨w.heap.size, 3, none⟩ = some (.int .i64 r.rp) ∧ W.cell? ⟨w.heap.size, 4, none⟩ = some (.int .i64 r.no) ∧ W.cell? ⟨w.heap.size, 5, none⟩ = some (.int .i64 r.b) ∧ W.cell? ⟨w.heap.size, 6, none⟩ = some (.int .i64 r.v) ∧ W.cell? ⟨w.heap.size, 7, none⟩ = some (.int .i64 r.st) ∧ W.cell? ⟨w.heap.size, 8, none⟩ = some (.int .i64 r.k) ∧ W.cell? ⟨w.heap.size, 9, none⟩ = some (.int .i64 r.i) ∧ W.cell? ⟨w.heap.size, 10, none⟩ = some (.int .i64 r.f) ∧ W.cell? ⟨w.heap.size, 11, none⟩ = some (.int .i64 r.t) ∧ W.cell? ⟨w.heap.size, 12, none⟩ = some (.int .i64 r.a) ∧ W.cell? ⟨w.heap.size, 13, none⟩ = some (.int .i64 r.s) ∧ W.cell? ⟨w.heap.size, 14, none⟩ = some u) ∧ (W.cell? ⟨w.heap.size + 1, 0, none⟩ = some (.int .i64 0) ∧ W.cell? ⟨w.heap.size + 1, 1, none⟩ = some (.int .i64 0) ∧ W.cell? ⟨w.heap.size + 1, 2, none⟩ = some (.int .i64 0) ∧ W.cell? ⟨w.heap.size + 1, 3, none⟩ = some (.int .i64 0) ∧ W.cell? ⟨w.heap.size + 1, 4, none⟩ = some (.int .i64 0))) (first | (exact stepZ (b := w.heap.size) (b' := w.heap.size + 1) (r := r) (u := u) (by assumption) (by assumption)) | (exact ⟨Ext.drew (Ext.refl _), MZ.out⟩)) (first | (go_at_call 68; refine (l3None_any n _ HN.out).mono ?_; rintro e W ⟨z, rfl, f9, x9⟩; obtain ⟨az, cz, rfl⟩ := f9.form) | (go_at_call 67; refine (specSame_any _ _ _ _ r.l (noneL n) _ (V2.out.ext (And.left (by assumption))) (Fresh.ints (by assumption))).mono ?_; rintro e W ⟨rfl, x8⟩))
    rename_i hH
    have hw := hy.trans hH.1
    clear hH
    cases hs : sameA r.s 0 r.l (noneL n)
    all_goals
      have HS := Lib.hid hs
      clear hs
      go_wp2
      go_ret
      exact ⟨by rw [HS.out]; rfl, hw⟩
end Go.Proofs.YtbffkidkfannhaaGreat
