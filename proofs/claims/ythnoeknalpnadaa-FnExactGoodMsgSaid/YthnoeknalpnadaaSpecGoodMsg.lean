/- Contract of the model's GoodMsg. -/
import Derived.Test.YthnoeknalpnadaaMsg
import Derived.Test.YthnoeknalpnadaaL4Row
import Derived.Test.YthnoeknalpnadaaHangs
import Derived.Test.YthnoeknalpnadaaNone
namespace Go.Proofs.Ythnoeknalpnadaa
open Go.RowKit
set_option linter.unusedVariables false

def headG (n : Int) (r : MsgD) : Bool := isGrp n && (inB r.kd 1 7 && (inB r.fr 0 (n - 1) && (inB r.tt 0 (n - 1) && (!(r.fr == r.tt) && (instB n r.rp r.no && inB r.b 0 9999)))))
def bodyG (n : Int) (r : MsgD) : Bool := r.v == 0 && (r.st == 0 && (goodD n r.s r.l && (goodB r.k r.i r.f r.t r.a && !(r.kd == 5 && !(r.b == 0)))))
def lastG (n : Int) (r : MsgD) : Bool := if r.kd = 2 then zeroC r.k r.i r.f r.t r.a else if r.kd = 4 ∨ r.kd = 6 then zeroC r.k r.i r.f r.t r.a && sameA r.s 0 r.l (noneL n) else true
def rowG (r : MsgD) : RowD := ⟨r.b, r.v, r.st, r.k, r.i, r.f, r.t, r.a, r.s, r.l⟩
def goodG (n : Int) (r : MsgD) : Bool := headG n r && if r.kd = 7 then !(r.st == 3) && goodRow n (rowG r) else bodyG n r && lastG n r

set_option maxHeartbeats 4000000 in
set_option maxRecDepth 100000 in
theorem specGoodMsg_head (n : Int) (r : MsgD) (u : Value) (w : World) (h : headG n r = false) :
    Calls Try.prog 71 #[.int .i64 n, .agg #[.int .i64 r.kd, .int .i64 r.fr, .int .i64 r.tt, .int .i64 r.rp, .int .i64 r.no, .int .i64 r.b, .int .i64 r.v, .int .i64 r.st, .int .i64 r.k, .int .i64 r.i, .int .i64 r.f, .int .i64 r.t, .int .i64 r.a, .int .i64 r.s, u]] w (BoolExt false w) := by
  unfold headG at h
  cases g0 : isGrp n with
  | false =>
    clear h
    go_enter Try.func71, Try.ntmps71
    go_wp2_with (first | (go_at_call 75; refine (specIsGroup_any _ _).mono ?_; rintro e w' ⟨rfl, rfl⟩) | (go_at_call 76; refine (l1In_any _ _ _ _).mono ?_; rintro e w' ⟨rfl, rfl⟩))
    go_ret
    exact ⟨rfl, Ext.alloc1 _ _⟩
  | true =>
    cases g1 : inB r.kd 1 7 with
    | false =>
      clear h
      have hn3 : 3 ≤ n := (isGrp_bd g0).1
      have hn5 : n ≤ 5 := (isGrp_bd g0).2
      go_enter Try.func71, Try.ntmps71
      go_wp2_with (first | (go_at_call 75; refine (specIsGroup_any _ _).mono ?_; rintro e w' ⟨rfl, rfl⟩) | (go_at_call 76; refine (l1In_any _ _ _ _).mono ?_; rintro e w' ⟨rfl, rfl⟩))
      go_ret
      exact ⟨rfl, Ext.alloc1 _ _⟩
    | true =>
      cases g2 : inB r.fr 0 (n - 1) with
      | false =>
        clear h
        have hn3 : 3 ≤ n := (isGrp_bd g0).1
        have hn5 : n ≤ 5 := (isGrp_bd g0).2
        go_enter Try.func71, Try.ntmps71
        go_wp2_with (first | (go_at_call 75; refine (specIsGroup_any _ _).mono ?_; rintro e w' ⟨rfl, rfl⟩) | (go_at_call 76; refine (l1In_any _ _ _ _).mono ?_; rintro e w' ⟨rfl, rfl⟩))
        go_ret
        exact ⟨rfl, Ext.alloc1 _ _⟩
      | true =>
        cases g3 : inB r.tt 0 (n - 1) with
        | false =>
          clear h
          have hn3 : 3 ≤ n := (isGrp_bd g0).1
          have hn5 : n ≤ 5 := (isGrp_bd g0).2
          go_enter Try.func71, Try.ntmps71
          go_wp2_with (first | (go_at_call 75; refine (specIsGroup_any _ _).mono ?_; rintro e w' ⟨rfl, rfl⟩) | (go_at_call 76; refine (l1In_any _ _ _ _).mono ?_; rintro e w' ⟨rfl, rfl⟩))
          go_ret
          exact ⟨rfl, Ext.alloc1 _ _⟩
        | true =>
          cases g4 : (r.fr == r.tt) with
          | true =>
            clear h
            have hn3 : 3 ≤ n := (isGrp_bd g0).1
            have hn5 : n ≤ 5 := (isGrp_bd g0).2
            go_enter Try.func71, Try.ntmps71
            go_wp2_with (first | (go_at_call 75; refine (specIsGroup_any _ _).mono ?_; rintro e w' ⟨rfl, rfl⟩) | (go_at_call 76; refine (l1In_any _ _ _ _).mono ?_; rintro e w' ⟨rfl, rfl⟩))
            go_ret
            exact ⟨rfl, Ext.alloc1 _ _⟩
          | false =>
            cases g5 : instB n r.rp r.no with
            | false =>
              clear h
              have hn3 : 3 ≤ n := (isGrp_bd g0).1
              have hn5 : n ≤ 5 := (isGrp_bd g0).2
              go_enter Try.func71, Try.ntmps71
              go_wp2_with (first | (go_at_call 75; refine (specIsGroup_any _ _).mono ?_; rintro e w' ⟨rfl, rfl⟩) | (go_at_call 76; refine (l1In_any _ _ _ _).mono ?_; rintro e w' ⟨rfl, rfl⟩) | (go_at_call 131; refine (l3Inst_any _ _ _ _ hn3 hn5).mono ?_; rintro e w' ⟨rfl, rfl⟩))
              go_ret
              exact ⟨rfl, Ext.alloc1 _ _⟩
            | true =>
              have g6 : inB r.b 0 9999 = false := by rw [g0, g1, g2, g3, g4, g5] at h; simpa using h
              clear h
              have hn3 : 3 ≤ n := (isGrp_bd g0).1
              have hn5 : n ≤ 5 := (isGrp_bd g0).2
              go_enter Try.func71, Try.ntmps71
              go_wp2_with (first | (go_at_call 75; refine (specIsGroup_any _ _).mono ?_; rintro e w' ⟨rfl, rfl⟩) | (go_at_call 76; refine (l1In_any _ _ _ _).mono ?_; rintro e w' ⟨rfl, rfl⟩) | (go_at_call 131; refine (l3Inst_any _ _ _ _ hn3 hn5).mono ?_; rintro e w' ⟨rfl, rfl⟩))
              go_ret
              exact ⟨rfl, Ext.alloc1 _ _⟩

theorem headG_of {n : Int} {r : MsgD} (h : headG n r = true) : isGrp n = true ∧ inB r.kd 1 7 = true ∧ inB r.fr 0 (n - 1) = true ∧ inB r.tt 0 (n - 1) = true ∧ (r.fr == r.tt) = false ∧ instB n r.rp r.no = true ∧ inB r.b 0 9999 = true := by
  unfold headG at h
  simp only [Bool.and_eq_true, Bool.not_eq_true'] at h
  exact ⟨h.1, h.2.1, h.2.2.1, h.2.2.2.1, h.2.2.2.2.1, h.2.2.2.2.2.1, h.2.2.2.2.2.2⟩

set_option maxHeartbeats 4000000 in
set_option maxRecDepth 100000 in
theorem specGoodMsg_row (n : Int) (r : MsgD) (u : Value) (w : World) (hv : Ints w u r.l) (h : headG n r = true) (hk : r.kd = 7) :
    Calls Try.prog 71 #[.int .i64 n, .agg #[.int .i64 r.kd, .int .i64 r.fr, .int .i64 r.tt, .int .i64 r.rp, .int .i64 r.no, .int .i64 r.b, .int .i64 r.v, .int .i64 r.st, .int .i64 r.k, .int .i64 r.i, .int .i64 r.f, .int .i64 r.t, .int .i64 r.a, .int .i64 r.s, u]] w (BoolExt (!(r.st == 3) && goodRow n (rowG r)) w) := by
  obtain ⟨g0, g1, g2, g3, g4, g5, g6⟩ := headG_of h
  have hn3 : 3 ≤ n := (isGrp_bd g0).1
  have hn5 : n ≤ 5 := (isGrp_bd g0).2
  have HV := Lib.hid hv
  clear h hv
  cases h3 : (r.st == 3)
  · have h3' : (r.st != 3) = true := by simpa using h3
    clear h3
    go_enter Try.func71, Try.ntmps71
    go_wp2_with (first | (go_at_call 75; refine (specIsGroup_any _ _).mono ?_; rintro e w' ⟨rfl, rfl⟩) | (go_at_call 76; refine (l1In_any _ _ _ _).mono ?_; rintro e w' ⟨rfl, rfl⟩) | (go_at_call 131; refine (l3Inst_any _ _ _ _ hn3 hn5).mono ?_; rintro e w' ⟨rfl, rfl⟩))
    refine (l4Row_any n (rowG r) u _ (HV.out.ext (Ext.alloc2 _ _ _)) g0).mono ?_
    rintro e w1 ⟨rfl, x1⟩
    have hx := (Ext.alloc2 w _ _).trans x1
    clear x1 HV
    cases hA : goodRow n (rowG r)
    all_goals
      have HA := Lib.hid hA
      clear hA
      go_wp2
      go_ret
      exact ⟨by rw [HA.out]; rfl, hx⟩
  · have h3' : (r.st != 3) = false := by simpa using h3
    clear h3
    go_enter Try.func71, Try.ntmps71
    go_wp2_with (first | (go_at_call 75; refine (specIsGroup_any _ _).mono ?_; rintro e w' ⟨rfl, rfl⟩) | (go_at_call 76; refine (l1In_any _ _ _ _).mono ?_; rintro e w' ⟨rfl, rfl⟩) | (go_at_call 131; refine (l3Inst_any _ _ _ _ hn3 hn5).mono ?_; rintro e w' ⟨rfl, rfl⟩))
    go_ret
    exact ⟨rfl, (Ext.alloc1 _ _).alloc _⟩

theorem cmd_behind (w : World) (o : Obj) (T : TypeId) : CmdAt ((w.alloc o).alloc (.cells #[.int .i64 0, .int .i64 0, .int .i64 0, .int .i64 0, .int .i64 0] T)) (w.heap.size + 1) 0 0 0 0 0 := by
  have h := cmdAt_new (w.alloc o) T 0 0 0 0 0
  rw [World.size_alloc] at h
  exact h

set_option maxHeartbeats 8000000 in
set_option maxRecDepth 100000 in
theorem specGoodMsg_v (n : Int) (r : MsgD) (u : Value) (w : World) (hv : Ints w u r.l) (h : headG n r = true) (e7 : (r.kd == 7) = false) (ev : (r.v != 0) = true) :
    Calls Try.prog 71 #[.int .i64 n, .agg #[.int .i64 r.kd, .int .i64 r.fr, .int .i64 r.tt, .int .i64 r.rp, .int .i64 r.no, .int .i64 r.b, .int .i64 r.v, .int .i64 r.st, .int .i64 r.k, .int .i64 r.i, .int .i64 r.f, .int .i64 r.t, .int .i64 r.a, .int .i64 r.s, u]] w (BoolExt false w) := by
  obtain ⟨g0, g1, g2, g3, g4, g5, g6⟩ := headG_of h
  have hn3 : 3 ≤ n := (isGrp_bd g0).1
  have hn5 : n ≤ 5 := (isGrp_bd g0).2
  obtain ⟨wb, hwb⟩ : ∃ wb, wb = (w.alloc (.cells #[.int .i64 r.kd, .int .i64 r.fr, .int .i64 r.tt, .int .i64 r.rp, .int .i64 r.no, .int .i64 r.b, .int .i64 r.v, .int .i64 r.st, .int .i64 r.k, .int .i64 r.i, .int .i64 r.f, .int .i64 r.t, .int .i64 r.a, .int .i64 r.s, u] 110)).alloc (.cells #[.int .i64 0, .int .i64 0, .int .i64 0, .int .i64 0, .int .i64 0] 36) := ⟨_, rfl⟩
  have xb : Ext w wb := by rw [hwb]; exact Ext.alloc2 _ _ _
  have hb : MsgAt wb w.heap.size r u := by rw [hwb]; exact (msgAt_new w _ r u).ext (Ext.alloc1 _ _)
  have hz : CmdAt wb (w.heap.size + 1) 0 0 0 0 0 := by rw [hwb]; exact cmd_behind _ _ _
  have HWB := Lib.hid hwb
  have HB := Lib.hid hb
  have HZ := Lib.hid hz
  have HV := Lib.hid (hv.ext xb)
  clear h hwb hb hz hv
  go_enter Try.func71, Try.ntmps71
  go_wp2_with (first | (go_at_call 75; refine (specIsGroup_any _ _).mono ?_; rintro e w' ⟨rfl, rfl⟩) | (go_at_call 76; refine (l1In_any _ _ _ _).mono ?_; rintro e w' ⟨rfl, rfl⟩) | (go_at_call 131; refine (l3Inst_any _ _ _ _ hn3 hn5).mono ?_; rintro e w' ⟨rfl, rfl⟩))
  rw [← HWB.out]
  go_ret
  exact ⟨rfl, xb⟩

set_option maxHeartbeats 8000000 in
set_option maxRecDepth 100000 in
theorem specGoodMsg_st (n : Int) (r : MsgD) (u : Value) (w : World) (hv : Ints w u r.l) (h : headG n r = true) (e7 : (r.kd == 7) = false) (ev : (r.v != 0) = false) (es : (r.st != 0) = true) :
    Calls Try.prog 71 #[.int .i64 n, .agg #[.int .i64 r.kd, .int .i64 r.fr, .int .i64 r.tt, .int .i64 r.rp, .int .i64 r.no, .int .i64 r.b, .int .i64 r.v, .int .i64 r.st, .int .i64 r.k, .int .i64 r.i, .int .i64 r.f, .int .i64 r.t, .int .i64 r.a, .int .i64 r.s, u]] w (BoolExt false w) := by
  obtain ⟨g0, g1, g2, g3, g4, g5, g6⟩ := headG_of h
  have hn3 : 3 ≤ n := (isGrp_bd g0).1
  have hn5 : n ≤ 5 := (isGrp_bd g0).2
  obtain ⟨wb, hwb⟩ : ∃ wb, wb = (w.alloc (.cells #[.int .i64 r.kd, .int .i64 r.fr, .int .i64 r.tt, .int .i64 r.rp, .int .i64 r.no, .int .i64 r.b, .int .i64 r.v, .int .i64 r.st, .int .i64 r.k, .int .i64 r.i, .int .i64 r.f, .int .i64 r.t, .int .i64 r.a, .int .i64 r.s, u] 110)).alloc (.cells #[.int .i64 0, .int .i64 0, .int .i64 0, .int .i64 0, .int .i64 0] 36) := ⟨_, rfl⟩
  have xb : Ext w wb := by rw [hwb]; exact Ext.alloc2 _ _ _
  have hb : MsgAt wb w.heap.size r u := by rw [hwb]; exact (msgAt_new w _ r u).ext (Ext.alloc1 _ _)
  have hz : CmdAt wb (w.heap.size + 1) 0 0 0 0 0 := by rw [hwb]; exact cmd_behind _ _ _
  have HWB := Lib.hid hwb
  have HB := Lib.hid hb
  have HZ := Lib.hid hz
  have HV := Lib.hid (hv.ext xb)
  clear h hwb hb hz hv
  go_enter Try.func71, Try.ntmps71
  go_wp2_with (first | (go_at_call 75; refine (specIsGroup_any _ _).mono ?_; rintro e w' ⟨rfl, rfl⟩) | (go_at_call 76; refine (l1In_any _ _ _ _).mono ?_; rintro e w' ⟨rfl, rfl⟩) | (go_at_call 131; refine (l3Inst_any _ _ _ _ hn3 hn5).mono ?_; rintro e w' ⟨rfl, rfl⟩))
  rw [← HWB.out]
  go_ret
  exact ⟨rfl, xb⟩

set_option maxHeartbeats 8000000 in
set_option maxRecDepth 100000 in
theorem specGoodMsg_d (n : Int) (r : MsgD) (u : Value) (w : World) (hv : Ints w u r.l) (h : headG n r = true) (e7 : (r.kd == 7) = false) (ev : (r.v != 0) = false) (es : (r.st != 0) = false) (hd : goodD n r.s r.l = false) :
    Calls Try.prog 71 #[.int .i64 n, .agg #[.int .i64 r.kd, .int .i64 r.fr, .int .i64 r.tt, .int .i64 r.rp, .int .i64 r.no, .int .i64 r.b, .int .i64 r.v, .int .i64 r.st, .int .i64 r.k, .int .i64 r.i, .int .i64 r.f, .int .i64 r.t, .int .i64 r.a, .int .i64 r.s, u]] w (BoolExt false w) := by
  obtain ⟨g0, g1, g2, g3, g4, g5, g6⟩ := headG_of h
  have hn3 : 3 ≤ n := (isGrp_bd g0).1
  have hn5 : n ≤ 5 := (isGrp_bd g0).2
  obtain ⟨wb, hwb⟩ : ∃ wb, wb = (w.alloc (.cells #[.int .i64 r.kd, .int .i64 r.fr, .int .i64 r.tt, .int .i64 r.rp, .int .i64 r.no, .int .i64 r.b, .int .i64 r.v, .int .i64 r.st, .int .i64 r.k, .int .i64 r.i, .int .i64 r.f, .int .i64 r.t, .int .i64 r.a, .int .i64 r.s, u] 110)).alloc (.cells #[.int .i64 0, .int .i64 0, .int .i64 0, .int .i64 0, .int .i64 0] 36) := ⟨_, rfl⟩
  have xb : Ext w wb := by rw [hwb]; exact Ext.alloc2 _ _ _
  have hb : MsgAt wb w.heap.size r u := by rw [hwb]; exact (msgAt_new w _ r u).ext (Ext.alloc1 _ _)
  have hz : CmdAt wb (w.heap.size + 1) 0 0 0 0 0 := by rw [hwb]; exact cmd_behind _ _ _
  have HWB := Lib.hid hwb
  have HB := Lib.hid hb
  have HZ := Lib.hid hz
  have HV := Lib.hid (hv.ext xb)
  clear h hwb hb hz hv
  have HD := Lib.hid hd
  clear hd
  go_enter Try.func71, Try.ntmps71
  go_wp2_with (first | (go_at_call 75; refine (specIsGroup_any _ _).mono ?_; rintro e w' ⟨rfl, rfl⟩) | (go_at_call 76; refine (l1In_any _ _ _ _).mono ?_; rintro e w' ⟨rfl, rfl⟩) | (go_at_call 131; refine (l3Inst_any _ _ _ _ hn3 hn5).mono ?_; rintro e w' ⟨rfl, rfl⟩))
  rw [← HWB.out]
  refine (l3Attr_any _ _ _ r.l _ HV.out).mono ?_
  rintro e w1 ⟨rfl, x1⟩
  rw [HD.out]
  have hx := xb.trans x1
  clear x1 xb
  go_wp2
  go_ret
  exact ⟨rfl, hx⟩

set_option maxHeartbeats 8000000 in
set_option maxRecDepth 100000 in
theorem specGoodMsg_c (n : Int) (r : MsgD) (u : Value) (w : World) (hv : Ints w u r.l) (h : headG n r = true) (e7 : (r.kd == 7) = false) (ev : (r.v != 0) = false) (es : (r.st != 0) = false) (hd : goodD n r.s r.l = true) (hc : goodB r.k r.i r.f r.t r.a = false) :
    Calls Try.prog 71 #[.int .i64 n, .agg #[.int .i64 r.kd, .int .i64 r.fr, .int .i64 r.tt, .int .i64 r.rp, .int .i64 r.no, .int .i64 r.b, .int .i64 r.v, .int .i64 r.st, .int .i64 r.k, .int .i64 r.i, .int .i64 r.f, .int .i64 r.t, .int .i64 r.a, .int .i64 r.s, u]] w (BoolExt false w) := by
  obtain ⟨g0, g1, g2, g3, g4, g5, g6⟩ := headG_of h
  have hn3 : 3 ≤ n := (isGrp_bd g0).1
  have hn5 : n ≤ 5 := (isGrp_bd g0).2
  obtain ⟨wb, hwb⟩ : ∃ wb, wb = (w.alloc (.cells #[.int .i64 r.kd, .int .i64 r.fr, .int .i64 r.tt, .int .i64 r.rp, .int .i64 r.no, .int .i64 r.b, .int .i64 r.v, .int .i64 r.st, .int .i64 r.k, .int .i64 r.i, .int .i64 r.f, .int .i64 r.t, .int .i64 r.a, .int .i64 r.s, u] 110)).alloc (.cells #[.int .i64 0, .int .i64 0, .int .i64 0, .int .i64 0, .int .i64 0] 36) := ⟨_, rfl⟩
  have xb : Ext w wb := by rw [hwb]; exact Ext.alloc2 _ _ _
  have hb : MsgAt wb w.heap.size r u := by rw [hwb]; exact (msgAt_new w _ r u).ext (Ext.alloc1 _ _)
  have hz : CmdAt wb (w.heap.size + 1) 0 0 0 0 0 := by rw [hwb]; exact cmd_behind _ _ _
  have HWB := Lib.hid hwb
  have HB := Lib.hid hb
  have HZ := Lib.hid hz
  have HV := Lib.hid (hv.ext xb)
  clear h hwb hb hz hv
  have HC := Lib.hid hc
  clear hc
  have HD := Lib.hid hd
  clear hd
  go_enter Try.func71, Try.ntmps71
  go_wp2_with (first | (go_at_call 75; refine (specIsGroup_any _ _).mono ?_; rintro e w' ⟨rfl, rfl⟩) | (go_at_call 76; refine (l1In_any _ _ _ _).mono ?_; rintro e w' ⟨rfl, rfl⟩) | (go_at_call 131; refine (l3Inst_any _ _ _ _ hn3 hn5).mono ?_; rintro e w' ⟨rfl, rfl⟩))
  rw [← HWB.out]
  refine (l3Attr_any _ _ _ r.l _ HV.out).mono ?_
  rintro e w1 ⟨rfl, x1⟩
  rw [HD.out]
  have hx := xb.trans x1
  obtain ⟨c0, c1, c2, c3, c4, c5, c6, c7, c8, c9, c10, c11, c12, c13, c14⟩ := HB.out.ext x1
  go_wp2_with fail
  refine (specGood_any _ _ _ _ _ _).mono ?_
  rintro e w2 ⟨rfl, x2⟩
  rw [HC.out]
  have hy := hx.trans x2
  clear x1 x2 xb hx c0 c1 c2 c3 c4 c5 c6 c7 c8 c9 c10 c11 c12 c13 c14
  go_wp2
  go_ret
  exact ⟨rfl, hy⟩

set_option maxHeartbeats 8000000 in
set_option maxRecDepth 100000 in
theorem specGoodMsg_5no (n : Int) (r : MsgD) (u : Value) (w : World) (hv : Ints w u r.l) (h : headG n r = true) (e7 : (r.kd == 7) = false) (ev : (r.v != 0) = false) (es : (r.st != 0) = false) (hd : goodD n r.s r.l = true) (hc : goodB r.k r.i r.f r.t r.a = true) (e5 : (r.kd == 5) = true) (eb : (r.b != 0) = true) :
    Calls Try.prog 71 #[.int .i64 n, .agg #[.int .i64 r.kd, .int .i64 r.fr, .int .i64 r.tt, .int .i64 r.rp, .int .i64 r.no, .int .i64 r.b, .int .i64 r.v, .int .i64 r.st, .int .i64 r.k, .int .i64 r.i, .int .i64 r.f, .int .i64 r.t, .int .i64 r.a, .int .i64 r.s, u]] w (BoolExt false w) := by
  obtain ⟨g0, g1, g2, g3, g4, g5, g6⟩ := headG_of h
  have hn3 : 3 ≤ n := (isGrp_bd g0).1
  have hn5 : n ≤ 5 := (isGrp_bd g0).2
  obtain ⟨wb, hwb⟩ : ∃ wb, wb = (w.alloc (.cells #[.int .i64 r.kd, .int .i64 r.fr, .int .i64 r.tt, .int .i64 r.rp, .int .i64 r.no, .int .i64 r.b, .int .i64 r.v, .int .i64 r.st, .int .i64 r.k, .int .i64 r.i, .int .i64 r.f, .int .i64 r.t, .int .i64 r.a, .int .i64 r.s, u] 110)).alloc (.cells #[.int .i64 0, .int .i64 0, .int .i64 0, .int .i64 0, .int .i64 0] 36) := ⟨_, rfl⟩
  have xb : Ext w wb := by rw [hwb]; exact Ext.alloc2 _ _ _
  have hb : MsgAt wb w.heap.size r u := by rw [hwb]; exact (msgAt_new w _ r u).ext (Ext.alloc1 _ _)
  have hz : CmdAt wb (w.heap.size + 1) 0 0 0 0 0 := by rw [hwb]; exact cmd_behind _ _ _
  have HWB := Lib.hid hwb
  have HB := Lib.hid hb
  have HZ := Lib.hid hz
  have HV := Lib.hid (hv.ext xb)
  clear h hwb hb hz hv
  have HC := Lib.hid hc
  clear hc
  have HD := Lib.hid hd
  clear hd
  go_enter Try.func71, Try.ntmps71
  go_wp2_with (first | (go_at_call 75; refine (specIsGroup_any _ _).mono ?_; rintro e w' ⟨rfl, rfl⟩) | (go_at_call 76; refine (l1In_any _ _ _ _).mono ?_; rintro e w' ⟨rfl, rfl⟩) | (go_at_call 131; refine (l3Inst_any _ _ _ _ hn3 hn5).mono ?_; rintro e w' ⟨rfl, rfl⟩))
  rw [← HWB.out]
  refine (l3Attr_any _ _ _ r.l _ HV.out).mono ?_
  rintro e w1 ⟨rfl, x1⟩
  rw [HD.out]
  have hx := xb.trans x1
  obtain ⟨c0, c1, c2, c3, c4, c5, c6, c7, c8, c9, c10, c11, c12, c13, c14⟩ := HB.out.ext x1
  go_wp2_with fail
  refine (specGood_any _ _ _ _ _ _).mono ?_
  rintro e w2 ⟨rfl, x2⟩
  rw [HC.out]
  have hy := hx.trans x2
  clear c0 c1 c2 c3 c4 c5 c6 c7 c8 c9 c10 c11 c12 c13 c14
  have M2 := Lib.hid (HB.out.ext (x1.trans x2))
  have Z2 := Lib.hid (HZ.out.ext (x1.trans x2))
  have V2 := Lib.hid (HV.out.ext (x1.trans x2))
  obtain ⟨c0, c1, c2, c3, c4, c5, c6, c7, c8, c9, c10, c11, c12, c13, c14⟩ := M2.out
  obtain ⟨z0, z1, z2, z3, z4⟩ := Z2.out
  clear x1 x2 xb hx
  go_wp2
  go_ret
  exact ⟨rfl, hy⟩

set_option maxHeartbeats 8000000 in
set_option maxRecDepth 100000 in
theorem specGoodMsg_5 (n : Int) (r : MsgD) (u : Value) (w : World) (hv : Ints w u r.l) (h : headG n r = true) (e7 : (r.kd == 7) = false) (ev : (r.v != 0) = false) (es : (r.st != 0) = false) (hd : goodD n r.s r.l = true) (hc : goodB r.k r.i r.f r.t r.a = true) (e5 : (r.kd == 5) = true) (eb : (r.b != 0) = false) (e2 : (r.kd == 2) = false) (e4 : (r.kd == 4) = false) (e6 : (r.kd == 6) = false) :
    Calls Try.prog 71 #[.int .i64 n, .agg #[.int .i64 r.kd, .int .i64 r.fr, .int .i64 r.tt, .int .i64 r.rp, .int .i64 r.no, .int .i64 r.b, .int .i64 r.v, .int .i64 r.st, .int .i64 r.k, .int .i64 r.i, .int .i64 r.f, .int .i64 r.t, .int .i64 r.a, .int .i64 r.s, u]] w (BoolExt true w) := by
  obtain ⟨g0, g1, g2, g3, g4, g5, g6⟩ := headG_of h
  have hn3 : 3 ≤ n := (isGrp_bd g0).1
  have hn5 : n ≤ 5 := (isGrp_bd g0).2
  obtain ⟨wb, hwb⟩ : ∃ wb, wb = (w.alloc (.cells #[.int .i64 r.kd, .int .i64 r.fr, .int .i64 r.tt, .int .i64 r.rp, .int .i64 r.no, .int .i64 r.b, .int .i64 r.v, .int .i64 r.st, .int .i64 r.k, .int .i64 r.i, .int .i64 r.f, .int .i64 r.t, .int .i64 r.a, .int .i64 r.s, u] 110)).alloc (.cells #[.int .i64 0, .int .i64 0, .int .i64 0, .int .i64 0, .int .i64 0] 36) := ⟨_, rfl⟩
  have xb : Ext w wb := by rw [hwb]; exact Ext.alloc2 _ _ _
  have hb : MsgAt wb w.heap.size r u := by rw [hwb]; exact (msgAt_new w _ r u).ext (Ext.alloc1 _ _)
  have hz : CmdAt wb (w.heap.size + 1) 0 0 0 0 0 := by rw [hwb]; exact cmd_behind _ _ _
  have HWB := Lib.hid hwb
  have HB := Lib.hid hb
  have HZ := Lib.hid hz
  have HV := Lib.hid (hv.ext xb)
  clear h hwb hb hz hv
  have HC := Lib.hid hc
  clear hc
  have HD := Lib.hid hd
  clear hd
  go_enter Try.func71, Try.ntmps71
  go_wp2_with (first | (go_at_call 75; refine (specIsGroup_any _ _).mono ?_; rintro e w' ⟨rfl, rfl⟩) | (go_at_call 76; refine (l1In_any _ _ _ _).mono ?_; rintro e w' ⟨rfl, rfl⟩) | (go_at_call 131; refine (l3Inst_any _ _ _ _ hn3 hn5).mono ?_; rintro e w' ⟨rfl, rfl⟩))
  rw [← HWB.out]
  refine (l3Attr_any _ _ _ r.l _ HV.out).mono ?_
  rintro e w1 ⟨rfl, x1⟩
  rw [HD.out]
  have hx := xb.trans x1
  obtain ⟨c0, c1, c2, c3, c4, c5, c6, c7, c8, c9, c10, c11, c12, c13, c14⟩ := HB.out.ext x1
  go_wp2_with fail
  refine (specGood_any _ _ _ _ _ _).mono ?_
  rintro e w2 ⟨rfl, x2⟩
  rw [HC.out]
  have hy := hx.trans x2
  clear c0 c1 c2 c3 c4 c5 c6 c7 c8 c9 c10 c11 c12 c13 c14
  have M2 := Lib.hid (HB.out.ext (x1.trans x2))
  have Z2 := Lib.hid (HZ.out.ext (x1.trans x2))
  have V2 := Lib.hid (HV.out.ext (x1.trans x2))
  obtain ⟨c0, c1, c2, c3, c4, c5, c6, c7, c8, c9, c10, c11, c12, c13, c14⟩ := M2.out
  obtain ⟨z0, z1, z2, z3, z4⟩ := Z2.out
  clear x1 x2 xb hx
  go_wp2
  go_ret
  exact ⟨rfl, hy⟩

set_option maxHeartbeats 8000000 in
set_option maxRecDepth 100000 in
theorem specGoodMsg_13 (n : Int) (r : MsgD) (u : Value) (w : World) (hv : Ints w u r.l) (h : headG n r = true) (e7 : (r.kd == 7) = false) (ev : (r.v != 0) = false) (es : (r.st != 0) = false) (hd : goodD n r.s r.l = true) (hc : goodB r.k r.i r.f r.t r.a = true) (e5 : (r.kd == 5) = false) (e2 : (r.kd == 2) = false) (e4 : (r.kd == 4) = false) (e6 : (r.kd == 6) = false) :
    Calls Try.prog 71 #[.int .i64 n, .agg #[.int .i64 r.kd, .int .i64 r.fr, .int .i64 r.tt, .int .i64 r.rp, .int .i64 r.no, .int .i64 r.b, .int .i64 r.v, .int .i64 r.st, .int .i64 r.k, .int .i64 r.i, .int .i64 r.f, .int .i64 r.t, .int .i64 r.a, .int .i64 r.s, u]] w (BoolExt true w) := by
  obtain ⟨g0, g1, g2, g3, g4, g5, g6⟩ := headG_of h
  have hn3 : 3 ≤ n := (isGrp_bd g0).1
  have hn5 : n ≤ 5 := (isGrp_bd g0).2
  obtain ⟨wb, hwb⟩ : ∃ wb, wb = (w.alloc (.cells #[.int .i64 r.kd, .int .i64 r.fr, .int .i64 r.tt, .int .i64 r.rp, .int .i64 r.no, .int .i64 r.b, .int .i64 r.v, .int .i64 r.st, .int .i64 r.k, .int .i64 r.i, .int .i64 r.f, .int .i64 r.t, .int .i64 r.a, .int .i64 r.s, u] 110)).alloc (.cells #[.int .i64 0, .int .i64 0, .int .i64 0, .int .i64 0, .int .i64 0] 36) := ⟨_, rfl⟩
  have xb : Ext w wb := by rw [hwb]; exact Ext.alloc2 _ _ _
  have hb : MsgAt wb w.heap.size r u := by rw [hwb]; exact (msgAt_new w _ r u).ext (Ext.alloc1 _ _)
  have hz : CmdAt wb (w.heap.size + 1) 0 0 0 0 0 := by rw [hwb]; exact cmd_behind _ _ _
  have HWB := Lib.hid hwb
  have HB := Lib.hid hb
  have HZ := Lib.hid hz
  have HV := Lib.hid (hv.ext xb)
  clear h hwb hb hz hv
  have HC := Lib.hid hc
  clear hc
  have HD := Lib.hid hd
  clear hd
  go_enter Try.func71, Try.ntmps71
  go_wp2_with (first | (go_at_call 75; refine (specIsGroup_any _ _).mono ?_; rintro e w' ⟨rfl, rfl⟩) | (go_at_call 76; refine (l1In_any _ _ _ _).mono ?_; rintro e w' ⟨rfl, rfl⟩) | (go_at_call 131; refine (l3Inst_any _ _ _ _ hn3 hn5).mono ?_; rintro e w' ⟨rfl, rfl⟩))
  rw [← HWB.out]
  refine (l3Attr_any _ _ _ r.l _ HV.out).mono ?_
  rintro e w1 ⟨rfl, x1⟩
  rw [HD.out]
  have hx := xb.trans x1
  obtain ⟨c0, c1, c2, c3, c4, c5, c6, c7, c8, c9, c10, c11, c12, c13, c14⟩ := HB.out.ext x1
  go_wp2_with fail
  refine (specGood_any _ _ _ _ _ _).mono ?_
  rintro e w2 ⟨rfl, x2⟩
  rw [HC.out]
  have hy := hx.trans x2
  clear c0 c1 c2 c3 c4 c5 c6 c7 c8 c9 c10 c11 c12 c13 c14
  have M2 := Lib.hid (HB.out.ext (x1.trans x2))
  have Z2 := Lib.hid (HZ.out.ext (x1.trans x2))
  have V2 := Lib.hid (HV.out.ext (x1.trans x2))
  obtain ⟨c0, c1, c2, c3, c4, c5, c6, c7, c8, c9, c10, c11, c12, c13, c14⟩ := M2.out
  obtain ⟨z0, z1, z2, z3, z4⟩ := Z2.out
  clear x1 x2 xb hx
  go_wp2
  go_ret
  exact ⟨rfl, hy⟩

set_option maxHeartbeats 8000000 in
set_option maxRecDepth 100000 in
theorem specGoodMsg_2 (n : Int) (r : MsgD) (u : Value) (w : World) (hv : Ints w u r.l) (h : headG n r = true) (e7 : (r.kd == 7) = false) (ev : (r.v != 0) = false) (es : (r.st != 0) = false) (hd : goodD n r.s r.l = true) (hc : goodB r.k r.i r.f r.t r.a = true) (e5 : (r.kd == 5) = false) (e2 : (r.kd == 2) = true) :
    Calls Try.prog 71 #[.int .i64 n, .agg #[.int .i64 r.kd, .int .i64 r.fr, .int .i64 r.tt, .int .i64 r.rp, .int .i64 r.no, .int .i64 r.b, .int .i64 r.v, .int .i64 r.st, .int .i64 r.k, .int .i64 r.i, .int .i64 r.f, .int .i64 r.t, .int .i64 r.a, .int .i64 r.s, u]] w (BoolExt (zeroC r.k r.i r.f r.t r.a) w) := by
  obtain ⟨g0, g1, g2, g3, g4, g5, g6⟩ := headG_of h
  have hn3 : 3 ≤ n := (isGrp_bd g0).1
  have hn5 : n ≤ 5 := (isGrp_bd g0).2
  obtain ⟨wb, hwb⟩ : ∃ wb, wb = (w.alloc (.cells #[.int .i64 r.kd, .int .i64 r.fr, .int .i64 r.tt, .int .i64 r.rp, .int .i64 r.no, .int .i64 r.b, .int .i64 r.v, .int .i64 r.st, .int .i64 r.k, .int .i64 r.i, .int .i64 r.f, .int .i64 r.t, .int .i64 r.a, .int .i64 r.s, u] 110)).alloc (.cells #[.int .i64 0, .int .i64 0, .int .i64 0, .int .i64 0, .int .i64 0] 36) := ⟨_, rfl⟩
  have xb : Ext w wb := by rw [hwb]; exact Ext.alloc2 _ _ _
  have hb : MsgAt wb w.heap.size r u := by rw [hwb]; exact (msgAt_new w _ r u).ext (Ext.alloc1 _ _)
  have hz : CmdAt wb (w.heap.size + 1) 0 0 0 0 0 := by rw [hwb]; exact cmd_behind _ _ _
  have HWB := Lib.hid hwb
  have HB := Lib.hid hb
  have HZ := Lib.hid hz
  have HV := Lib.hid (hv.ext xb)
  clear h hwb hb hz hv
  have heq := fun W => eq_zero r.k r.i r.f r.t r.a W
  cases hq : zeroC r.k r.i r.f r.t r.a
  all_goals
    rw [hq] at heq
    clear hq
    have HC := Lib.hid hc
    clear hc
    have HD := Lib.hid hd
    clear hd
    go_enter Try.func71, Try.ntmps71
    go_wp2_with (first | (go_at_call 75; refine (specIsGroup_any _ _).mono ?_; rintro e w' ⟨rfl, rfl⟩) | (go_at_call 76; refine (l1In_any _ _ _ _).mono ?_; rintro e w' ⟨rfl, rfl⟩) | (go_at_call 131; refine (l3Inst_any _ _ _ _ hn3 hn5).mono ?_; rintro e w' ⟨rfl, rfl⟩))
    rw [← HWB.out]
    refine (l3Attr_any _ _ _ r.l _ HV.out).mono ?_
    rintro e w1 ⟨rfl, x1⟩
    rw [HD.out]
    have hx := xb.trans x1
    obtain ⟨c0, c1, c2, c3, c4, c5, c6, c7, c8, c9, c10, c11, c12, c13, c14⟩ := HB.out.ext x1
    go_wp2_with fail
    refine (specGood_any _ _ _ _ _ _).mono ?_
    rintro e w2 ⟨rfl, x2⟩
    rw [HC.out]
    have hy := hx.trans x2
    clear c0 c1 c2 c3 c4 c5 c6 c7 c8 c9 c10 c11 c12 c13 c14
    have M2 := Lib.hid (HB.out.ext (x1.trans x2))
    have Z2 := Lib.hid (HZ.out.ext (x1.trans x2))
    have V2 := Lib.hid (HV.out.ext (x1.trans x2))
    obtain ⟨c0, c1, c2, c3, c4, c5, c6, c7, c8, c9, c10, c11, c12, c13, c14⟩ := M2.out
    obtain ⟨z0, z1, z2, z3, z4⟩ := Z2.out
    clear x1 x2 xb hx
    go_wp2
    go_ret
    exact ⟨rfl, hy⟩

theorem stepZ {wb W W' : World} {b b' : Nat} {r : MsgD} {u : Value} (x : Ext W W') (h : Ext wb W ∧ MsgAt W b r u ∧ CmdAt W b' 0 0 0 0 0) : Ext wb W' ∧ MsgAt W' b r u ∧ CmdAt W' b' 0 0 0 0 0 :=
  ⟨h.1.trans x, h.2.1.ext x, h.2.2.ext x⟩

set_option maxHeartbeats 8000000 in
set_option maxRecDepth 100000 in
theorem specGoodMsg_4 (n : Int) (r : MsgD) (u : Value) (w : World) (hv : Ints w u r.l) (h : headG n r = true) (e7 : (r.kd == 7) = false) (ev : (r.v != 0) = false) (es : (r.st != 0) = false) (hd : goodD n r.s r.l = true) (hc : goodB r.k r.i r.f r.t r.a = true) (e5 : (r.kd == 5) = false) (e2 : (r.kd == 2) = false) (e4 : (r.kd == 4) = true) :
    Calls Try.prog 71 #[.int .i64 n, .agg #[.int .i64 r.kd, .int .i64 r.fr, .int .i64 r.tt, .int .i64 r.rp, .int .i64 r.no, .int .i64 r.b, .int .i64 r.v, .int .i64 r.st, .int .i64 r.k, .int .i64 r.i, .int .i64 r.f, .int .i64 r.t, .int .i64 r.a, .int .i64 r.s, u]] w (BoolExt (zeroC r.k r.i r.f r.t r.a && sameA r.s 0 r.l (noneL n)) w) := by
  obtain ⟨g0, g1, g2, g3, g4, g5, g6⟩ := headG_of h
  have hn3 : 3 ≤ n := (isGrp_bd g0).1
  have hn5 : n ≤ 5 := (isGrp_bd g0).2
  obtain ⟨wb, hwb⟩ : ∃ wb, wb = (w.alloc (.cells #[.int .i64 r.kd, .int .i64 r.fr, .int .i64 r.tt, .int .i64 r.rp, .int .i64 r.no, .int .i64 r.b, .int .i64 r.v, .int .i64 r.st, .int .i64 r.k, .int .i64 r.i, .int .i64 r.f, .int .i64 r.t, .int .i64 r.a, .int .i64 r.s, u] 110)).alloc (.cells #[.int .i64 0, .int .i64 0, .int .i64 0, .int .i64 0, .int .i64 0] 36) := ⟨_, rfl⟩
  have xb : Ext w wb := by rw [hwb]; exact Ext.alloc2 _ _ _
  have hb : MsgAt wb w.heap.size r u := by rw [hwb]; exact (msgAt_new w _ r u).ext (Ext.alloc1 _ _)
  have hz : CmdAt wb (w.heap.size + 1) 0 0 0 0 0 := by rw [hwb]; exact cmd_behind _ _ _
  have HWB := Lib.hid hwb
  have HB := Lib.hid hb
  have HZ := Lib.hid hz
  have HV := Lib.hid (hv.ext xb)
  clear h hwb hb hz hv
  have heq := fun W => eq_zero r.k r.i r.f r.t r.a W
  have HN := Lib.hid g0
  cases hq : zeroC r.k r.i r.f r.t r.a
  · rw [hq] at heq
    clear hq
    have HC := Lib.hid hc
    clear hc
    have HD := Lib.hid hd
    clear hd
    go_enter Try.func71, Try.ntmps71
    go_wp2_with (first | (go_at_call 75; refine (specIsGroup_any _ _).mono ?_; rintro e w' ⟨rfl, rfl⟩) | (go_at_call 76; refine (l1In_any _ _ _ _).mono ?_; rintro e w' ⟨rfl, rfl⟩) | (go_at_call 131; refine (l3Inst_any _ _ _ _ hn3 hn5).mono ?_; rintro e w' ⟨rfl, rfl⟩))
    rw [← HWB.out]
    refine (l3Attr_any _ _ _ r.l _ HV.out).mono ?_
    rintro e w1 ⟨rfl, x1⟩
    rw [HD.out]
    have hx := xb.trans x1
    obtain ⟨c0, c1, c2, c3, c4, c5, c6, c7, c8, c9, c10, c11, c12, c13, c14⟩ := HB.out.ext x1
    go_wp2_with fail
    refine (specGood_any _ _ _ _ _ _).mono ?_
    rintro e w2 ⟨rfl, x2⟩
    rw [HC.out]
    have hy := hx.trans x2
    clear c0 c1 c2 c3 c4 c5 c6 c7 c8 c9 c10 c11 c12 c13 c14
    have M2 := Lib.hid (HB.out.ext (x1.trans x2))
    have Z2 := Lib.hid (HZ.out.ext (x1.trans x2))
    have V2 := Lib.hid (HV.out.ext (x1.trans x2))
    obtain ⟨c0, c1, c2, c3, c4, c5, c6, c7, c8, c9, c10, c11, c12, c13, c14⟩ := M2.out
    obtain ⟨z0, z1, z2, z3, z4⟩ := Z2.out
    clear x1 x2 xb hx
    go_wp2_with fail
    go_quiet (fail)
    go_wp2
    go_ret
    exact ⟨rfl, by repeat (first | exact hy | apply Ext.drewN)⟩
  · rw [hq] at heq
    rw [Bool.true_and]
    clear hq
    have HC := Lib.hid hc
    clear hc
    have HD := Lib.hid hd
    clear hd
    go_enter Try.func71, Try.ntmps71
    go_wp2_with (first | (go_at_call 75; refine (specIsGroup_any _ _).mono ?_; rintro e w' ⟨rfl, rfl⟩) | (go_at_call 76; refine (l1In_any _ _ _ _).mono ?_; rintro e w' ⟨rfl, rfl⟩) | (go_at_call 131; refine (l3Inst_any _ _ _ _ hn3 hn5).mono ?_; rintro e w' ⟨rfl, rfl⟩))
    rw [← HWB.out]
    refine (l3Attr_any _ _ _ r.l _ HV.out).mono ?_
    rintro e w1 ⟨rfl, x1⟩
    rw [HD.out]
    have hx := xb.trans x1
    obtain ⟨c0, c1, c2, c3, c4, c5, c6, c7, c8, c9, c10, c11, c12, c13, c14⟩ := HB.out.ext x1
    go_wp2_with fail
    refine (specGood_any _ _ _ _ _ _).mono ?_
    rintro e w2 ⟨rfl, x2⟩
    rw [HC.out]
    have hy := hx.trans x2
    clear c0 c1 c2 c3 c4 c5 c6 c7 c8 c9 c10 c11 c12 c13 c14
    have M2 := Lib.hid (HB.out.ext (x1.trans x2))
    have Z2 := Lib.hid (HZ.out.ext (x1.trans x2))
    have V2 := Lib.hid (HV.out.ext (x1.trans x2))
    obtain ⟨c0, c1, c2, c3, c4, c5, c6, c7, c8, c9, c10, c11, c12, c13, c14⟩ := M2.out
    obtain ⟨z0, z1, z2, z3, z4⟩ := Z2.out
    clear x1 x2 xb hx
    have MZ := Lib.hid (And.intro M2.out Z2.out)
  
    go_wp2_with fail
    go_region_held3 (fun W => Ext w2 W ∧ (W.cell? ⟨w.heap.size, 0, none⟩ = some (.int .i64 r.kd) ∧ W.cell? ⟨w.heap.size, 1, none⟩ = some (.int .i64 r.fr) ∧ W.cell? ⟨w.heap.size, 2, none⟩ = some (.int .i64 r.tt) ∧ W.cell? ⟨w.heap.size, 3, none⟩ = some (.int .i64 r.rp) ∧ W.cell? ⟨w.heap.size, 4, none⟩ = some (.int .i64 r.no) ∧ W.cell? ⟨w.heap.size, 5, none⟩ = some (.int .i64 r.b) ∧ W.cell? ⟨w.heap.size, 6, none⟩ = some (.int .i64 r.v) ∧ W.cell? ⟨w.heap.size, 7, none⟩ = some (.int .i64 r.st) ∧ W.cell? ⟨w.heap.size, 8, none⟩ = some (.int .i64 r.k) ∧ W.cell? ⟨w.heap.size, 9, none⟩ = some (.int .i64 r.i) ∧ W.cell? ⟨w.heap.size, 10, none⟩ = some (.int .i64 r.f) ∧ W.cell? ⟨w.heap.size, 11, none⟩ = some (.int .i64 r.t) ∧ W.cell? ⟨w.heap.size, 12, none⟩ = some (.int .i64 r.a) ∧ W.cell? ⟨w.heap.size, 13, none⟩ = some (.int .i64 r.s) ∧ W.cell? ⟨w.heap.size, 14, none⟩ = some u) ∧ (W.cell? ⟨w.heap.size + 1, 0, none⟩ = some (.int .i64 0) ∧ W.cell? ⟨w.heap.size + 1, 1, none⟩ = some (.int .i64 0) ∧ W.cell? ⟨w.heap.size + 1, 2, none⟩ = some (.int .i64 0) ∧ W.cell? ⟨w.heap.size + 1, 3, none⟩ = some (.int .i64 0) ∧ W.cell? ⟨w.heap.size + 1, 4, none⟩ = some (.int .i64 0))) (first | (exact stepZ (b := w.heap.size) (b' := w.heap.size + 1) (r := r) (u := u) (by assumption) (by assumption)) | (exact ⟨Ext.drew (Ext.refl _), MZ.out⟩)) (first | (go_at_call 135; refine (l3None_any n _ HN.out).mono ?_; rintro e W ⟨z, rfl, f9, x9⟩; obtain ⟨az, cz, rfl⟩ := f9.form) | (go_at_call 134; refine (specSame_any _ _ _ _ r.l (noneL n) _ (V2.out.ext (And.left (by assumption))) (Fresh.ints (by assumption))).mono ?_; rintro e W ⟨rfl, x8⟩))
    rename_i hH
    have hw := hy.trans hH.1
    clear hH
    cases hs : sameA r.s 0 r.l (noneL n)
    all_goals
      have HS := Lib.hid hs
      clear hs
      go_wp2
      go_ret
      exact ⟨by rw [HS.out]; rfl, hw⟩

set_option maxHeartbeats 8000000 in
set_option maxRecDepth 100000 in
theorem specGoodMsg_6 (n : Int) (r : MsgD) (u : Value) (w : World) (hv : Ints w u r.l) (h : headG n r = true) (e7 : (r.kd == 7) = false) (ev : (r.v != 0) = false) (es : (r.st != 0) = false) (hd : goodD n r.s r.l = true) (hc : goodB r.k r.i r.f r.t r.a = true) (e5 : (r.kd == 5) = false) (e2 : (r.kd == 2) = false) (e4 : (r.kd == 4) = false) (e6 : (r.kd == 6) = true) :
    Calls Try.prog 71 #[.int .i64 n, .agg #[.int .i64 r.kd, .int .i64 r.fr, .int .i64 r.tt, .int .i64 r.rp, .int .i64 r.no, .int .i64 r.b, .int .i64 r.v, .int .i64 r.st, .int .i64 r.k, .int .i64 r.i, .int .i64 r.f, .int .i64 r.t, .int .i64 r.a, .int .i64 r.s, u]] w (BoolExt (zeroC r.k r.i r.f r.t r.a && sameA r.s 0 r.l (noneL n)) w) := by
  obtain ⟨g0, g1, g2, g3, g4, g5, g6⟩ := headG_of h
  have hn3 : 3 ≤ n := (isGrp_bd g0).1
  have hn5 : n ≤ 5 := (isGrp_bd g0).2
  obtain ⟨wb, hwb⟩ : ∃ wb, wb = (w.alloc (.cells #[.int .i64 r.kd, .int .i64 r.fr, .int .i64 r.tt, .int .i64 r.rp, .int .i64 r.no, .int .i64 r.b, .int .i64 r.v, .int .i64 r.st, .int .i64 r.k, .int .i64 r.i, .int .i64 r.f, .int .i64 r.t, .int .i64 r.a, .int .i64 r.s, u] 110)).alloc (.cells #[.int .i64 0, .int .i64 0, .int .i64 0, .int .i64 0, .int .i64 0] 36) := ⟨_, rfl⟩
  have xb : Ext w wb := by rw [hwb]; exact Ext.alloc2 _ _ _
  have hb : MsgAt wb w.heap.size r u := by rw [hwb]; exact (msgAt_new w _ r u).ext (Ext.alloc1 _ _)
  have hz : CmdAt wb (w.heap.size + 1) 0 0 0 0 0 := by rw [hwb]; exact cmd_behind _ _ _
  have HWB := Lib.hid hwb
  have HB := Lib.hid hb
  have HZ := Lib.hid hz
  have HV := Lib.hid (hv.ext xb)
  clear h hwb hb hz hv
  have heq := fun W => eq_zero r.k r.i r.f r.t r.a W
  have HN := Lib.hid g0
  cases hq : zeroC r.k r.i r.f r.t r.a
  · rw [hq] at heq
    clear hq
    have HC := Lib.hid hc
    clear hc
    have HD := Lib.hid hd
    clear hd
    go_enter Try.func71, Try.ntmps71
    go_wp2_with (first | (go_at_call 75; refine (specIsGroup_any _ _).mono ?_; rintro e w' ⟨rfl, rfl⟩) | (go_at_call 76; refine (l1In_any _ _ _ _).mono ?_; rintro e w' ⟨rfl, rfl⟩) | (go_at_call 131; refine (l3Inst_any _ _ _ _ hn3 hn5).mono ?_; rintro e w' ⟨rfl, rfl⟩))
    rw [← HWB.out]
    refine (l3Attr_any _ _ _ r.l _ HV.out).mono ?_
    rintro e w1 ⟨rfl, x1⟩
    rw [HD.out]
    have hx := xb.trans x1
    obtain ⟨c0, c1, c2, c3, c4, c5, c6, c7, c8, c9, c10, c11, c12, c13, c14⟩ := HB.out.ext x1
    go_wp2_with fail
    refine (specGood_any _ _ _ _ _ _).mono ?_
    rintro e w2 ⟨rfl, x2⟩
    rw [HC.out]
    have hy := hx.trans x2
    clear c0 c1 c2 c3 c4 c5 c6 c7 c8 c9 c10 c11 c12 c13 c14
    have M2 := Lib.hid (HB.out.ext (x1.trans x2))
    have Z2 := Lib.hid (HZ.out.ext (x1.trans x2))
    have V2 := Lib.hid (HV.out.ext (x1.trans x2))
    obtain ⟨c0, c1, c2, c3, c4, c5, c6, c7, c8, c9, c10, c11, c12, c13, c14⟩ := M2.out
    obtain ⟨z0, z1, z2, z3, z4⟩ := Z2.out
    clear x1 x2 xb hx
    go_wp2_with fail
    go_quiet (fail)
    go_wp2
    go_ret
    exact ⟨rfl, by repeat (first | exact hy | apply Ext.drewN)⟩
  · rw [hq] at heq
    rw [Bool.true_and]
    clear hq
    have HC := Lib.hid hc
    clear hc
    have HD := Lib.hid hd
    clear hd
    go_enter Try.func71, Try.ntmps71
    go_wp2_with (first | (go_at_call 75; refine (specIsGroup_any _ _).mono ?_; rintro e w' ⟨rfl, rfl⟩) | (go_at_call 76; refine (l1In_any _ _ _ _).mono ?_; rintro e w' ⟨rfl, rfl⟩) | (go_at_call 131; refine (l3Inst_any _ _ _ _ hn3 hn5).mono ?_; rintro e w' ⟨rfl, rfl⟩))
    rw [← HWB.out]
    refine (l3Attr_any _ _ _ r.l _ HV.out).mono ?_
    rintro e w1 ⟨rfl, x1⟩
    rw [HD.out]
    have hx := xb.trans x1
    obtain ⟨c0, c1, c2, c3, c4, c5, c6, c7, c8, c9, c10, c11, c12, c13, c14⟩ := HB.out.ext x1
    go_wp2_with fail
    refine (specGood_any _ _ _ _ _ _).mono ?_
    rintro e w2 ⟨rfl, x2⟩
    rw [HC.out]
    have hy := hx.trans x2
    clear c0 c1 c2 c3 c4 c5 c6 c7 c8 c9 c10 c11 c12 c13 c14
    have M2 := Lib.hid (HB.out.ext (x1.trans x2))
    have Z2 := Lib.hid (HZ.out.ext (x1.trans x2))
    have V2 := Lib.hid (HV.out.ext (x1.trans x2))
    obtain ⟨c0, c1, c2, c3, c4, c5, c6, c7, c8, c9, c10, c11, c12, c13, c14⟩ := M2.out
    obtain ⟨z0, z1, z2, z3, z4⟩ := Z2.out
    clear x1 x2 xb hx
    have MZ := Lib.hid (And.intro M2.out Z2.out)
  
    go_wp2_with fail
    go_region_held3 (fun W => Ext w2 W ∧ (W.cell? ⟨w.heap.size, 0, none⟩ = some (.int .i64 r.kd) ∧ W.cell? ⟨w.heap.size, 1, none⟩ = some (.int .i64 r.fr) ∧ W.cell? ⟨w.heap.size, 2, none⟩ = some (.int .i64 r.tt) ∧ W.cell? ⟨w.heap.size, 3, none⟩ = some (.int .i64 r.rp) ∧ W.cell? ⟨w.heap.size, 4, none⟩ = some (.int .i64 r.no) ∧ W.cell? ⟨w.heap.size, 5, none⟩ = some (.int .i64 r.b) ∧ W.cell? ⟨w.heap.size, 6, none⟩ = some (.int .i64 r.v) ∧ W.cell? ⟨w.heap.size, 7, none⟩ = some (.int .i64 r.st) ∧ W.cell? ⟨w.heap.size, 8, none⟩ = some (.int .i64 r.k) ∧ W.cell? ⟨w.heap.size, 9, none⟩ = some (.int .i64 r.i) ∧ W.cell? ⟨w.heap.size, 10, none⟩ = some (.int .i64 r.f) ∧ W.cell? ⟨w.heap.size, 11, none⟩ = some (.int .i64 r.t) ∧ W.cell? ⟨w.heap.size, 12, none⟩ = some (.int .i64 r.a) ∧ W.cell? ⟨w.heap.size, 13, none⟩ = some (.int .i64 r.s) ∧ W.cell? ⟨w.heap.size, 14, none⟩ = some u) ∧ (W.cell? ⟨w.heap.size + 1, 0, none⟩ = some (.int .i64 0) ∧ W.cell? ⟨w.heap.size + 1, 1, none⟩ = some (.int .i64 0) ∧ W.cell? ⟨w.heap.size + 1, 2, none⟩ = some (.int .i64 0) ∧ W.cell? ⟨w.heap.size + 1, 3, none⟩ = some (.int .i64 0) ∧ W.cell? ⟨w.heap.size + 1, 4, none⟩ = some (.int .i64 0))) (first | (exact stepZ (b := w.heap.size) (b' := w.heap.size + 1) (r := r) (u := u) (by assumption) (by assumption)) | (exact ⟨Ext.drew (Ext.refl _), MZ.out⟩)) (first | (go_at_call 135; refine (l3None_any n _ HN.out).mono ?_; rintro e W ⟨z, rfl, f9, x9⟩; obtain ⟨az, cz, rfl⟩ := f9.form) | (go_at_call 134; refine (specSame_any _ _ _ _ r.l (noneL n) _ (V2.out.ext (And.left (by assumption))) (Fresh.ints (by assumption))).mono ?_; rintro e W ⟨rfl, x8⟩))
    rename_i hH
    have hw := hy.trans hH.1
    clear hH
    cases hs : sameA r.s 0 r.l (noneL n)
    all_goals
      have HS := Lib.hid hs
      clear hs
      go_wp2
      go_ret
      exact ⟨by rw [HS.out]; rfl, hw⟩
end Go.Proofs.Ythnoeknalpnadaa
