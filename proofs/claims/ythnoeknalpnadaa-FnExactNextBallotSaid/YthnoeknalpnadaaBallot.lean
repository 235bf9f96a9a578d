/- Contracts of the two functions NextBallot, of the model and of the program. -/
import Derived.Test.YthnoeknalpnadaaImplRowAt
namespace Go.Proofs.Ythnoeknalpnadaa
open Go.RowKit
set_option linter.unusedVariables false

/-- The least ballot above b, 8 at least, of the replica me. -/
def atLeast8 (b : Int) : Int := if b < 8 then 8 else b
def nextB (b me : Int) : Int := atLeast8 (b + 1) + (me - atLeast8 (b + 1) % 8 + 8) % 8
theorem nextB_of {b me x : Int} (h0 : 0 ≤ b) (m0 : 0 ≤ me) (m1 : me ≤ 4) (hm : x % 8 = me) (h8 : 8 ≤ x) (hb : b < x) (hl : x = 8 + me ∨ x - 8 ≤ b) : x = nextB b me := by
  unfold nextB atLeast8
  split <;> omega
theorem nextB_low {b me : Int} (h0 : 0 ≤ b) (hb : b + 1 < 8) : nextB b me = 8 + (me - 8 % 8 + 8) % 8 := by unfold nextB atLeast8; rw [if_pos hb]
theorem nextB_high {b me : Int} (hb : ¬ b + 1 < 8) : nextB b me = (b + 1) + (me - (b + 1) % 8 + 8) % 8 := by unfold nextB atLeast8; rw [if_neg hb]
theorem nextB_bd {b me : Int} (h0 : 0 ≤ b) (h1 : b ≤ 9999) : 8 ≤ nextB b me ∧ nextB b me ≤ 10007 := by
  unfold nextB atLeast8; split <;> omega

theorem goodRow_ballot {n : Int} {r : RowD} (h : goodRow n r = true) : 0 ≤ r.b ∧ r.b ≤ 9999 := by
  have hh : headB r = true := by
    unfold goodRow at h
    simp only [Bool.and_eq_true] at h
    exact h.1
  obtain ⟨h1, _, _⟩ := headB_of hh
  unfold inB at h1
  simpa using h1
theorem rowOf_ballot {n : Int} {T : List (List RowD)} {p q : Nat} (h : goodTab n T = true) (hp : p < T.length) : 0 ≤ (rowOf n T p q).b ∧ (rowOf n T p q).b ≤ 9999 := by
  by_cases hq : q < T[p].length
  · rw [rowOf_in hp hq]; exact goodRow_ballot (goodTab_row h hp hq).1
  · rw [rowOf_out hp (by omega)]; simp [emptyR]
def bOf (n : Int) (T : List (List RowD)) (rep no me : Int) : Int := nextB (rowAtR n T rep no).b me
def okB (n : Int) (T : List (List RowD)) (rep no me : Int) : Bool := (okAt n T rep no && inB me 0 (n - 1)) && decide (bOf n T rep no me ≤ 9999)
def balR (n : Int) (T : List (List RowD)) (rep no me : Int) : Int := if okB n T rep no me then bOf n T rep no me else 0
theorem balR_no {n : Int} {T : List (List RowD)} {rep no me : Int} (h : okB n T rep no me = false) : balR n T rep no me = 0 := by unfold balR; rw [h]; rfl
theorem balR_yes {n : Int} {T : List (List RowD)} {rep no me : Int} (h : okB n T rep no me = true) : balR n T rep no me = bOf n T rep no me := by unfold balR; rw [h]; rfl
def TwoInt (x : Int) (b : Bool) (w : World) (e : Ending) (w' : World) : Prop := e = .returned (.tuple #[.int .i64 x, .bool b]) ∧ Ext w w'

theorem field_row0 (b v st k i f t a s : Int) (u : Value) (W : World) : (Instr.field 71 (.agg #[.int .i64 b, .int .i64 v, .int .i64 st, .int .i64 k, .int .i64 i, .int .i64 f, .int .i64 t, .int .i64 a, .int .i64 s, u]) 0).run Try.prog W = .ok (.int .i64 b) W := by kernel_rfl

set_option maxHeartbeats 2000000 in
set_option maxRecDepth 100000 in
theorem l4Ballot_any (n : Int) (u : Value) (T : List (List RowD)) (p q : Nat) (me : Int) (w : World) (hu : Rowzz w u T) (hg : goodTab n T = true) (hp : p < T.length) (hq : q ≤ 5) (m0 : 0 ≤ me) (m1 : me ≤ 4) :
    Calls Try.prog 122 #[.agg #[.int .i64 n, u], .int .i64 p, .int .i64 ((q : Int) + 1), .int .i64 me] w (IntExt (nextB (rowOf n T p q).b me) w) := by
  have hbd := rowOf_ballot (q := q) hg hp
  obtain ⟨d, hd⟩ : ∃ d, d = rowOf n T p q := ⟨_, rfl⟩
  have hc : ∀ W, Rowzz W u T → Calls Try.prog 115 #[.agg #[.int .i64 n, u], .int .i64 p, .int .i64 ((q : Int) + 1)] W (NewRow d W) := fun W h => by rw [hd]; exact l4At_any n u T p q W h hg hp hq
  rw [← hd] at hbd ⊢
  obtain ⟨b0, b1⟩ := hbd
  have HC := Lib.hid hc
  have HU := Lib.hid (hu.ext (Ext.alloc1 w (.cells #[.int .i64 n, u] 24)))
  clear hc hd hg hu hp hq
  go_enter Try.func122, Try.ntmps122
  go_wp2_with fail
  refine (HC.out _ HU.out).mono ?_
  rintro e w1 ⟨v, rfl, f1, x1⟩
  obtain ⟨av, cv, rfl⟩ := f1.form
  have hx := (Ext.alloc1 w _).trans x1
  have hfl := fun W => field_row0 d.b d.v d.st d.k d.i d.f d.t d.a d.s (.slice av d.l.length cv) W
  clear f1 x1
  go_wp2
  clear hfl
  go_loopw [10] (fun i wr => ∃ x : Int, i = .int .i64 x ∧ 8 ≤ x ∧ x ≤ 20000 ∧ Hid (x % 8 = me ∧ (x = 8 + me ∨ x - 8 ≤ d.b)) ∧ wr = w1) (fun i _ => (d.b + 8 - intOf i).toNat)
  case atStart => exact ⟨8 + me, rfl, by omega, by omega, Lib.hid ⟨by omega, .inl rfl⟩, rfl⟩
  case round =>
    obtain ⟨x, rfl, x0, x9, HX, rfl⟩ := hrel
    by_cases hlt : x ≤ d.b
    · go_wp2
      go_roundw
      case rel => exact ⟨x + 8, by go_num, by omega, by omega, Lib.hid ⟨by have := HX.out.1; omega, .inr (by omega)⟩, by trivial⟩
      case measure => simp [intOf]; omega
    · have hb : d.b < x := by omega
      have hn := nextB_of b0 m0 m1 HX.out.1 x0 hb HX.out.2
      have HN := Lib.hid hn
      clear hn hlt
      go_wp2
      go_ret
      exact ⟨by rw [← HN.out]; rfl, hx⟩

set_option maxHeartbeats 2000000 in
set_option maxRecDepth 100000 in
theorem specBallot_any (n : Int) (u : Value) (T : List (List RowD)) (rep no me : Int) (w : World) (hu : Rowzz w u T) :
    Calls Try.prog 55 #[.agg #[.int .i64 n, u], .int .i64 rep, .int .i64 no, .int .i64 me] w (TwoInt (balR n T rep no me) (okB n T rep no me) w) := by
  have HB := Lib.hid (attrAt_new w 24 n u)
  have HU := Lib.hid (hu.ext (Ext.alloc1 w (.cells #[.int .i64 n, u] 24)))
  clear hu
  cases hk : okAt n T rep no with
  | false =>
    have e : okB n T rep no me = false := by unfold okB; rw [hk]; rfl
    rw [balR_no e, e]
    have HK : Hid ((goodTab n T && instB n rep no) = false) := Lib.hid hk
    clear hk e
    go_enter Try.func55, Try.ntmps55
    go_wp2_with fail
    refine (l4Asked_any _ _ T _ _ _ HU.out).mono ?_
    rintro e w1 ⟨rfl, x1⟩
    have hx := (Ext.alloc1 w _).trans x1
    clear x1
    rw [HK.out]
    go_wp2
    go_ret2
    exact ⟨rfl, hx⟩
  | true =>
    obtain ⟨h1, h2⟩ := okAt_of hk
    obtain ⟨p, q, rfl, rfl, hp, hq⟩ := inst_nat h1 h2
    have hgb := isGrp_bd (goodTab_of h1).1
    have n3 := hgb.1
    have n5 := hgb.2
    have HK : Hid ((goodTab n T && instB n (p : Int) ((q : Int) + 1)) = true) := Lib.hid hk
    cases hm : inB me 0 (n - 1) with
    | false =>
      have e : okB n T (p : Int) ((q : Int) + 1) me = false := by unfold okB; rw [hm, Bool.and_false]; rfl
      rw [balR_no e, e]
      have HM := Lib.hid hm
      clear hk e hm h1 h2 hgb
      go_enter Try.func55, Try.ntmps55
      go_wp2_with fail
      refine (l4Asked_any _ _ T _ _ _ HU.out).mono ?_
      rintro e w1 ⟨rfl, x1⟩
      have hx := (Ext.alloc1 w _).trans x1
      obtain ⟨c0, c1⟩ := HB.out.ext x1
      clear x1
      rw [HK.out]
      go_wp2_with fail
      refine (l1In_any _ _ _ _).mono ?_
      rintro e w' ⟨rfl, rfl⟩
      rw [HM.out]
      go_wp2
      go_ret2
      exact ⟨rfl, hx⟩
    | true =>
      have hmm : 0 ≤ me ∧ me ≤ 4 := by unfold inB at hm; simp only [Bool.and_eq_true, decide_eq_true_eq] at hm; omega
      obtain ⟨m0, m1⟩ := hmm
      have hbe : bOf n T (p : Int) ((q : Int) + 1) me = nextB (rowOf n T p q).b me := by unfold bOf; rw [rowAtR_yes hk]
      have hbd := nextB_bd (me := me) (rowOf_ballot (q := q) h1 hp).1 (rowOf_ballot (q := q) h1 hp).2
      obtain ⟨x, hx0⟩ : ∃ x, x = nextB (rowOf n T p q).b me := ⟨_, rfl⟩
      have hc : ∀ W, Rowzz W u T → Calls Try.prog 122 #[.agg #[.int .i64 n, u], .int .i64 p, .int .i64 ((q : Int) + 1), .int .i64 me] W (IntExt x W) := fun W h => by rw [hx0]; exact l4Ballot_any n u T p q me W h h1 hp hq m0 m1
      rw [← hx0] at hbd hbe
      have HC := Lib.hid hc
      have HM := Lib.hid hm
      obtain ⟨x0, x1'⟩ := hbd
      by_cases hxx : x ≤ 9999
      · have e : okB n T (p : Int) ((q : Int) + 1) me = true := by unfold okB; rw [hk, hm, hbe]; simp [hxx]
        rw [balR_yes e, hbe, e]
        clear hk e hm h1 h2 hgb hc hbe hx0
        go_enter Try.func55, Try.ntmps55
        go_wp2_with fail
        refine (l4Asked_any _ _ T _ _ _ HU.out).mono ?_
        rintro e w1 ⟨rfl, x1⟩
        have hx := (Ext.alloc1 w _).trans x1
        obtain ⟨c0, c1⟩ := HB.out.ext x1
        rw [HK.out]
        go_wp2_with fail
        refine (l1In_any _ _ _ _).mono ?_
        rintro e w' ⟨rfl, rfl⟩
        rw [HM.out]
        go_wp2_with fail
        refine (HC.out _ (HU.out.ext x1)).mono ?_
        rintro e w2 ⟨rfl, x2⟩
        have hy := hx.trans x2
        have HU2 := Lib.hid (HU.out.ext (x1.trans x2))
        clear c0 c1
        obtain ⟨c0, c1⟩ := HB.out.ext (x1.trans x2)
        clear x1 x2 hx
        go_wp2_with fail
        refine (HC.out _ HU2.out).mono ?_
        rintro e w3 ⟨rfl, x3⟩
        have hz := hy.trans x3
        clear x3 hy c0 c1
        go_wp2
        go_ret2
        exact ⟨rfl, hz⟩
      · have e : okB n T (p : Int) ((q : Int) + 1) me = false := by unfold okB; rw [hk, hm, hbe]; simp; omega
        rw [balR_no e, e]
        have hxx' : 9999 < x := by omega
        clear hk e hm h1 h2 hgb hc hbe hx0 hxx
        go_enter Try.func55, Try.ntmps55
        go_wp2_with fail
        refine (l4Asked_any _ _ T _ _ _ HU.out).mono ?_
        rintro e w1 ⟨rfl, x1⟩
        have hx := (Ext.alloc1 w _).trans x1
        obtain ⟨c0, c1⟩ := HB.out.ext x1
        rw [HK.out]
        go_wp2_with fail
        refine (l1In_any _ _ _ _).mono ?_
        rintro e w' ⟨rfl, rfl⟩
        rw [HM.out]
        go_wp2_with fail
        refine (HC.out _ (HU.out.ext x1)).mono ?_
        rintro e w2 ⟨rfl, x2⟩
        have hy := hx.trans x2
        clear c0 c1 x1 x2 hx
        go_wp2
        go_ret2
        exact ⟨rfl, hy⟩

end Go.Proofs.Ythnoeknalpnadaa
