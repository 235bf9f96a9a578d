/- Contract of the program's NextBallot. -/
import Derived.Test.YthnoeknalpnadaaBallot
namespace Go.Proofs.Ythnoeknalpnadaa
open Go.RowKit
set_option linter.unusedVariables false

set_option maxHeartbeats 2000000 in
set_option maxRecDepth 100000 in
theorem implBallot_any (n : Int) (u : Value) (T : List (List RowD)) (rep no me : Int) (w : World) (hu : Rowzz w u T) (hs : bulkT T ≤ 1099511627776) :
    Calls Try.prog 56 #[.agg #[.int .i64 n, u], .int .i64 rep, .int .i64 no, .int .i64 me] w (TwoInt (balR n T rep no me) (okB n T rep no me) w) := by
  have HB := Lib.hid (attrAt_new w 24 n u)
  have HU := Lib.hid (hu.ext (Ext.alloc1 w (.cells #[.int .i64 n, u] 24)))
  obtain ⟨d, hd⟩ : ∃ d, d = rowAtR n T rep no := ⟨_, rfl⟩
  have hc := fun W h => implRowAt_any n u T rep no W h hs
  rw [← hd] at hc
  clear hu
  cases hk : okAt n T rep no with
  | false =>
    have e : okB n T rep no me = false := by unfold okB; rw [hk]; rfl
    rw [balR_no e, e]
    rw [hk] at hc
    have HC := Lib.hid hc
    clear hk e hc hd
    go_enter Try.func56, Try.ntmps56
    go_wp2_with fail
    refine (HC.out _ HU.out).mono ?_
    rintro e w1 ⟨v, rfl, f1, x1⟩
    obtain ⟨av, cv, rfl⟩ := f1.form
    have hx := (Ext.alloc1 w _).trans x1
    clear x1 f1
    go_wp2
    go_ret2
    exact ⟨rfl, hx.alloc _⟩
  | true =>
    obtain ⟨h1, h2⟩ := okAt_of hk
    obtain ⟨p, q, rfl, rfl, hp, hq⟩ := inst_nat h1 h2
    have hgb := isGrp_bd (goodTab_of h1).1
    have n3 := hgb.1
    have n5 := hgb.2
    have hbb : 0 ≤ d.b ∧ d.b ≤ 9999 := by rw [hd, rowAtR_yes hk]; exact rowOf_ballot h1 hp
    obtain ⟨b0, b9⟩ := hbb
    rw [hk] at hc
    have HC := Lib.hid hc
    by_cases hm : me < 0 ∨ n ≤ me
    · have hmf : inB me 0 (n - 1) = false := inB_no (by omega)
      have e : okB n T (p : Int) ((q : Int) + 1) me = false := by unfold okB; rw [hmf, Bool.and_false]; rfl
      rw [balR_no e, e]
      clear hk e hc hd h1 h2 hgb hmf
      have hrb : repB n me = false := by unfold repB; rw [inB_no (by omega), Bool.and_false]
      have HRB := Lib.hid hrb
      clear hm hrb
      go_enter Try.func56, Try.ntmps56
      go_wp2_with fail
      refine (HC.out _ HU.out).mono ?_
      rintro e w1 ⟨v, rfl, f1, x1⟩
      obtain ⟨av, cv, rfl⟩ := f1.form
      have hx := (Ext.alloc1 w _).trans x1
      obtain ⟨c0, c1⟩ := HB.out.ext (x1.trans (Ext.alloc1 w1 (.cells #[.int .i64 d.b, .int .i64 d.v, .int .i64 d.st, .int .i64 d.k, .int .i64 d.i, .int .i64 d.f, .int .i64 d.t, .int .i64 d.a, .int .i64 d.s, .slice av d.l.length cv] 71)))
      clear x1 f1
      go_wp2_with fail
      refine (isReplica_any _ _ _).mono ?_
      rintro e w' ⟨rfl, rfl⟩
      rw [HRB.out]
      go_wp2
      go_ret2
      exact ⟨rfl, hx.alloc _⟩
    · have g0 : 0 ≤ me := by omega
      have g1 : me < n := by omega
      have g2 : me ≤ 4 := by omega
      have hmt : inB me 0 (n - 1) = true := inB_yes g0 (by omega)
      have HRB : Hid (repB n me = true) := Lib.hid (by unfold repB; rw [(goodTab_of h1).1, hmt]; rfl)
      have hbe : bOf n T (p : Int) ((q : Int) + 1) me = nextB d.b me := by unfold bOf; rw [hd]
      obtain ⟨L, hL⟩ : ∃ L, L = atLeast8 (d.b + 1) := ⟨_, rfl⟩
      have hmx : ∀ (ts : Array TypeId) (T : TypeId) (W : World), (Builtin.max_ ts T #[.int .i64 (d.b + 1), .int .i64 8]).run Try.prog W = .ok (.int .i64 L) W := fun ts T W => by rw [hL]; simp only [run_max_int2]; rfl
      have hLb : 8 ≤ L ∧ L ≤ 10000 := by rw [hL]; unfold atLeast8; split <;> omega
      obtain ⟨L0, L1⟩ := hLb
      have hxe : nextB d.b me = L + (me - L) % 8 := by rw [hL]; unfold nextB; omega
      by_cases hxx : L + (me - L) % 8 ≤ 9999
      · have e : okB n T (p : Int) ((q : Int) + 1) me = true := by unfold okB; rw [hk, hmt, hbe, hxe]; simp [hxx]
        rw [balR_yes e, hbe, e, hxe]
        clear hk e hc hd h1 h2 hgb hm hmt hbe hL hxe
        go_enter Try.func56, Try.ntmps56
        go_wp2_with fail
        refine (HC.out _ HU.out).mono ?_
        rintro e w1 ⟨v, rfl, f1, x1⟩
        obtain ⟨av, cv, rfl⟩ := f1.form
        have hx := (Ext.alloc1 w _).trans x1
        obtain ⟨c0, c1⟩ := HB.out.ext (x1.trans (Ext.alloc1 w1 (.cells #[.int .i64 d.b, .int .i64 d.v, .int .i64 d.st, .int .i64 d.k, .int .i64 d.i, .int .i64 d.f, .int .i64 d.t, .int .i64 d.a, .int .i64 d.s, .slice av d.l.length cv] 71)))
        clear x1 f1
        go_wp2_with fail
        refine (isReplica_any _ _ _).mono ?_
        rintro e w' ⟨rfl, rfl⟩
        rw [HRB.out]
        go_wp2
        go_ret2
        exact ⟨rfl, hx.alloc _⟩
      · have e : okB n T (p : Int) ((q : Int) + 1) me = false := by unfold okB; rw [hk, hmt, hbe, hxe]; simp; omega
        rw [balR_no e, e]
        have hxx' : 9999 < L + (me - L) % 8 := by omega
        clear hk e hc hd h1 h2 hgb hm hmt hbe hL hxe hxx
        go_enter Try.func56, Try.ntmps56
        go_wp2_with fail
        refine (HC.out _ HU.out).mono ?_
        rintro e w1 ⟨v, rfl, f1, x1⟩
        obtain ⟨av, cv, rfl⟩ := f1.form
        have hx := (Ext.alloc1 w _).trans x1
        obtain ⟨c0, c1⟩ := HB.out.ext (x1.trans (Ext.alloc1 w1 (.cells #[.int .i64 d.b, .int .i64 d.v, .int .i64 d.st, .int .i64 d.k, .int .i64 d.i, .int .i64 d.f, .int .i64 d.t, .int .i64 d.a, .int .i64 d.s, .slice av d.l.length cv] 71)))
        clear x1 f1
        go_wp2_with fail
        refine (isReplica_any _ _ _).mono ?_
        rintro e w' ⟨rfl, rfl⟩
        rw [HRB.out]
        go_wp2
        go_ret2
        exact ⟨rfl, hx.alloc _⟩

end Go.Proofs.Ythnoeknalpnadaa
