/- Contract of the model's SameMsg. -/
import Derived.Test.YtjfnkcohpffigaaMsg
import Derived.Test.YtjfnkcohpffigaaL4Row
namespace Go.Proofs.Ytjfnkcohpffigaa
open Go.RowKit
set_option linter.unusedVariables false

set_option maxHeartbeats 4000000 in
theorem specSameMsg_any (r d : MsgD) (u v : Value) (w : World) (hu : Ints w u r.l) (hv : Ints w v d.l) :
    Calls Try.prog 28 #[.agg #[.int .i64 r.kd, .int .i64 r.fr, .int .i64 r.tt, .int .i64 r.rp, .int .i64 r.no, .int .i64 r.b, .int .i64 r.v, .int .i64 r.st, .int .i64 r.k, .int .i64 r.i, .int .i64 r.f, .int .i64 r.t, .int .i64 r.a, .int .i64 r.s, u], .agg #[.int .i64 d.kd, .int .i64 d.fr, .int .i64 d.tt, .int .i64 d.rp, .int .i64 d.no, .int .i64 d.b, .int .i64 d.v, .int .i64 d.st, .int .i64 d.k, .int .i64 d.i, .int .i64 d.f, .int .i64 d.t, .int .i64 d.a, .int .i64 d.s, v]] w (BoolExt (sameM r d) w) := by
  unfold sameM sameH
  cases h0 : (r.kd == d.kd)
  · go_enter Try.func28, Try.ntmps28
    go_wp2
    go_ret
    exact ⟨rfl, Ext.alloc2 _ _ _⟩
  cases h1 : (r.fr == d.fr)
  · go_enter Try.func28, Try.ntmps28
    go_wp2
    go_ret
    exact ⟨rfl, Ext.alloc2 _ _ _⟩
  cases h2 : (r.tt == d.tt)
  · go_enter Try.func28, Try.ntmps28
    go_wp2
    go_ret
    exact ⟨rfl, Ext.alloc2 _ _ _⟩
  cases h3 : (r.rp == d.rp)
  · go_enter Try.func28, Try.ntmps28
    go_wp2
    go_ret
    exact ⟨rfl, Ext.alloc2 _ _ _⟩
  cases h4 : (r.no == d.no)
  · go_enter Try.func28, Try.ntmps28
    go_wp2
    go_ret
    exact ⟨rfl, Ext.alloc2 _ _ _⟩
  cases h5 : (r.b == d.b)
  · go_enter Try.func28, Try.ntmps28
    go_wp2
    go_ret
    exact ⟨rfl, Ext.alloc2 _ _ _⟩
  cases h6 : (r.v == d.v)
  · go_enter Try.func28, Try.ntmps28
    go_wp2
    go_ret
    exact ⟨rfl, Ext.alloc2 _ _ _⟩
  cases h7 : (r.st == d.st)
  · go_enter Try.func28, Try.ntmps28
    go_wp2
    go_ret
    exact ⟨rfl, Ext.alloc2 _ _ _⟩
  simp only [Bool.true_and]
  have heq := fun W => eq_cmd r.k r.i r.f r.t r.a d.k d.i d.f d.t d.a W
  cases hz : sameC r.k r.i r.f r.t r.a d.k d.i d.f d.t d.a
  · rw [hz] at heq
    clear hz
    go_enter Try.func28, Try.ntmps28
    go_wp2
    go_ret
    exact ⟨rfl, Ext.alloc2 _ _ _⟩
  · rw [hz] at heq
    clear hz
    rw [Bool.true_and]
    have h2 := two_msgs w 56 56 r d u v
    go_enter Try.func28, Try.ntmps28
    go_wp2_with fail
    refine (specSame_any _ _ _ _ r.l d.l _ (hu.ext (Ext.alloc2 _ _ _)) (hv.ext (Ext.alloc2 _ _ _))).mono ?_
    rintro e w1 ⟨rfl, x1⟩
    have hx := (Ext.alloc2 w _ _).trans x1
    clear x1 h2 heq
    cases hA : sameA r.s d.s r.l d.l
    all_goals
      have HA := Lib.hid hA
      clear hA
      go_wp2
      go_ret
      exact ⟨by rw [HA.out]; rfl, hx⟩
end Go.Proofs.Ytjfnkcohpffigaa
