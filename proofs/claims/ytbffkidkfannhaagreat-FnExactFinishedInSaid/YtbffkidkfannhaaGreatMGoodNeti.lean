/- Texts of this proof, part i: words, plain facts, contracts. -/
import Derived.Test.YtbffkidkfannhaaGreatMGoodNetg
import Derived.Test.YtbffkidkfannhaaGreatMGoodNetc
import Derived.Test.YtbffkidkfannhaaGreatMGoodNeth

namespace Go.Proofs.YtbffkidkfannhaaGreat
open Go.RowKit
set_option linter.unusedVariables false

set_option maxHeartbeats 2000000 in
set_option maxRecDepth 100000 in
theorem contentOf_1 (r : MsgD) (u : Value) (w : World) (h : r.kd = 1) :
    Calls Tryz.prog 97 #[.agg #[.int .i64 r.kd, .int .i64 r.fr, .int .i64 r.tt, .int .i64 r.rp, .int .i64 r.no, .int .i64 r.b, .int .i64 r.v, .int .i64 r.st, .int .i64 r.k, .int .i64 r.i, .int .i64 r.f, .int .i64 r.t, .int .i64 r.a, .int .i64 r.s, u]] w (fun e w' => e = .returned (.tuple #[.iface 174 (.agg #[.int .i64 r.k, .int .i64 r.i, .int .i64 r.f, .int .i64 r.t, .int .i64 r.a, .int .i64 r.s, u]), .bool true]) ∧ Ext w w') := by
  go_enter Tryz.func97, Tryz.ntmps97
  go_wp2
  go_ret2
  exact ⟨rfl, Ext.alloc1 _ _⟩

set_option maxHeartbeats 2000000 in
set_option maxRecDepth 100000 in
theorem contentOf_2 (r : MsgD) (u : Value) (w : World) (h : r.kd = 2) :
    Calls Tryz.prog 97 #[.agg #[.int .i64 r.kd, .int .i64 r.fr, .int .i64 r.tt, .int .i64 r.rp, .int .i64 r.no, .int .i64 r.b, .int .i64 r.v, .int .i64 r.st, .int .i64 r.k, .int .i64 r.i, .int .i64 r.f, .int .i64 r.t, .int .i64 r.a, .int .i64 r.s, u]] w (fun e w' => e = .returned (.tuple #[.iface 176 (.agg #[.int .i64 r.s, u]), .bool true]) ∧ Ext w w') := by
  go_enter Tryz.func97, Tryz.ntmps97
  go_wp2
  go_ret2
  exact ⟨rfl, Ext.alloc1 _ _⟩

set_option maxHeartbeats 2000000 in
set_option maxRecDepth 100000 in
theorem contentOf_3 (r : MsgD) (u : Value) (w : World) (h : r.kd = 3) :
    Calls Tryz.prog 97 #[.agg #[.int .i64 r.kd, .int .i64 r.fr, .int .i64 r.tt, .int .i64 r.rp, .int .i64 r.no, .int .i64 r.b, .int .i64 r.v, .int .i64 r.st, .int .i64 r.k, .int .i64 r.i, .int .i64 r.f, .int .i64 r.t, .int .i64 r.a, .int .i64 r.s, u]] w (fun e w' => e = .returned (.tuple #[.iface 174 (.agg #[.int .i64 r.k, .int .i64 r.i, .int .i64 r.f, .int .i64 r.t, .int .i64 r.a, .int .i64 r.s, u]), .bool true]) ∧ Ext w w') := by
  go_enter Tryz.func97, Tryz.ntmps97
  go_wp2
  go_ret2
  exact ⟨rfl, Ext.alloc1 _ _⟩

set_option maxHeartbeats 2000000 in
set_option maxRecDepth 100000 in
theorem contentOf_4 (r : MsgD) (u : Value) (w : World) (h : r.kd = 4) :
    Calls Tryz.prog 97 #[.agg #[.int .i64 r.kd, .int .i64 r.fr, .int .i64 r.tt, .int .i64 r.rp, .int .i64 r.no, .int .i64 r.b, .int .i64 r.v, .int .i64 r.st, .int .i64 r.k, .int .i64 r.i, .int .i64 r.f, .int .i64 r.t, .int .i64 r.a, .int .i64 r.s, u]] w (fun e w' => e = .returned (.tuple #[.iface 182 (.agg #[]), .bool true]) ∧ Ext w w') := by
  go_enter Tryz.func97, Tryz.ntmps97
  go_wp2
  go_ret2
  exact ⟨rfl, Ext.alloc1 _ _⟩

set_option maxHeartbeats 2000000 in
set_option maxRecDepth 100000 in
theorem contentOf_5 (r : MsgD) (u : Value) (w : World) (h : r.kd = 5) :
    Calls Tryz.prog 97 #[.agg #[.int .i64 r.kd, .int .i64 r.fr, .int .i64 r.tt, .int .i64 r.rp, .int .i64 r.no, .int .i64 r.b, .int .i64 r.v, .int .i64 r.st, .int .i64 r.k, .int .i64 r.i, .int .i64 r.f, .int .i64 r.t, .int .i64 r.a, .int .i64 r.s, u]] w (fun e w' => e = .returned (.tuple #[.iface 177 (.agg #[.int .i64 r.k, .int .i64 r.i, .int .i64 r.f, .int .i64 r.t, .int .i64 r.a, .int .i64 r.s, u]), .bool true]) ∧ Ext w w') := by
  go_enter Tryz.func97, Tryz.ntmps97
  go_wp2
  go_ret2
  exact ⟨rfl, Ext.alloc1 _ _⟩

set_option maxHeartbeats 2000000 in
set_option maxRecDepth 100000 in
theorem contentOf_6 (r : MsgD) (u : Value) (w : World) (h : r.kd = 6) :
    Calls Tryz.prog 97 #[.agg #[.int .i64 r.kd, .int .i64 r.fr, .int .i64 r.tt, .int .i64 r.rp, .int .i64 r.no, .int .i64 r.b, .int .i64 r.v, .int .i64 r.st, .int .i64 r.k, .int .i64 r.i, .int .i64 r.f, .int .i64 r.t, .int .i64 r.a, .int .i64 r.s, u]] w (fun e w' => e = .returned (.tuple #[.iface 182 (.agg #[]), .bool true]) ∧ Ext w w') := by
  go_enter Tryz.func97, Tryz.ntmps97
  go_wp2
  go_ret2
  exact ⟨rfl, Ext.alloc1 _ _⟩

set_option maxHeartbeats 2000000 in
set_option maxRecDepth 100000 in
theorem reportOf_c (r : MsgD) (kd : Int) (ua : Option Addr) (uk uc : Nat) (w : World) :
    Calls Tryz.prog 123 #[.agg #[.int .i64 kd, .int .i64 r.fr, .int .i64 r.tt, .int .i64 r.rp, .int .i64 r.no, .int .i64 r.b, .int .i64 r.v, .int .i64 r.st, .int .i64 r.k, .int .i64 r.i, .int .i64 r.f, .int .i64 r.t, .int .i64 r.a, .int .i64 r.s, .slice ua uk uc]] w (fun e w' => e = .returned (.agg #[.int .i64 r.b, .int .i64 r.v, .int .i64 r.st, .int .i64 r.k, .int .i64 r.i, .int .i64 r.f, .int .i64 r.t, .int .i64 r.a, .int .i64 r.s, .slice ua uk uc]) ∧ Ext w w') := by
  go_enter Tryz.func123, Tryz.ntmps123
  go_wp2
  exact bodyPost_ret (v := .agg #[.int .i64 r.b, .int .i64 r.v, .int .i64 r.st, .int .i64 r.k, .int .i64 r.i, .int .i64 r.f, .int .i64 r.t, .int .i64 r.a, .int .i64 r.s, .slice ua uk uc]) (by simp [results, Tryz.results123, go_sem]) rfl ⟨rfl, by repeat (first | exact Ext.refl _ | refine Ext.alloc ?_ _)⟩

set_option maxHeartbeats 2000000 in
set_option maxRecDepth 100000 in
theorem contentOf_7 (r : MsgD) (u : Value) (w : World) (h : r.kd = 7) (hu : ∃ a k c, u = .slice a k c) :
    Calls Tryz.prog 97 #[.agg #[.int .i64 r.kd, .int .i64 r.fr, .int .i64 r.tt, .int .i64 r.rp, .int .i64 r.no, .int .i64 r.b, .int .i64 r.v, .int .i64 r.st, .int .i64 r.k, .int .i64 r.i, .int .i64 r.f, .int .i64 r.t, .int .i64 r.a, .int .i64 r.s, u]] w (fun e w' => e = .returned (.tuple #[.iface 179 (.agg #[.int .i64 r.b, .int .i64 r.v, .int .i64 r.st, .int .i64 r.k, .int .i64 r.i, .int .i64 r.f, .int .i64 r.t, .int .i64 r.a, .int .i64 r.s, u]), .bool true]) ∧ Ext w w') := by
  obtain ⟨ua, uk, uc, rfl⟩ := hu
  go_enter Tryz.func97, Tryz.ntmps97
  go_wp2_with fail
  refine (reportOf_c r _ _ _ _ _).mono ?_
  rintro e w1 ⟨rfl, x1⟩
  go_wp2
  go_ret2
  exact ⟨rfl, (Ext.alloc1 _ _).trans x1⟩

set_option maxHeartbeats 2000000 in
set_option maxRecDepth 100000 in
theorem contentOf_no (r : MsgD) (u : Value) (w : World) (h : inB r.kd 1 7 = false) :
    Calls Tryz.prog 97 #[.agg #[.int .i64 r.kd, .int .i64 r.fr, .int .i64 r.tt, .int .i64 r.rp, .int .i64 r.no, .int .i64 r.b, .int .i64 r.v, .int .i64 r.st, .int .i64 r.k, .int .i64 r.i, .int .i64 r.f, .int .i64 r.t, .int .i64 r.a, .int .i64 r.s, u]] w (fun e w' => e = .returned (.tuple #[.nilIface, .bool false]) ∧ Ext w w') := by
  have hh : ¬ (1 ≤ r.kd ∧ r.kd ≤ 7) := fun hk => by rw [inB_yes hk.1 hk.2] at h; cases h
  have e1 : (r.kd == 1) = false := by simp; omega
  have e2 : (r.kd == 2) = false := by simp; omega
  have e3 : (r.kd == 3) = false := by simp; omega
  have e4 : (r.kd == 4) = false := by simp; omega
  have e5 : (r.kd == 5) = false := by simp; omega
  have e6 : (r.kd == 6) = false := by simp; omega
  have e7 : (r.kd == 7) = false := by simp; omega
  clear h hh
  go_enter Tryz.func97, Tryz.ntmps97
  go_wp2
  go_ret2
  exact ⟨rfl, Ext.alloc1 _ _⟩

def wayB (n : Int) (r : MsgD) : Bool := repB n r.fr && repB n r.tt && !(r.fr == r.tt) && (repB n r.rp && inB r.no 1 6)
set_option maxHeartbeats 2000000 in
set_option maxRecDepth 100000 in
theorem isGoodWay_any (n : Int) (r : MsgD) (u : Value) (w : World) :
    Calls Tryz.prog 98 #[.int .i64 n, .agg #[.int .i64 r.kd, .int .i64 r.fr, .int .i64 r.tt, .int .i64 r.rp, .int .i64 r.no, .int .i64 r.b, .int .i64 r.v, .int .i64 r.st, .int .i64 r.k, .int .i64 r.i, .int .i64 r.f, .int .i64 r.t, .int .i64 r.a, .int .i64 r.s, u]] w (BoolExt (wayB n r) w) := by
  unfold wayB
  cases h1 : repB n r.fr
  · have H1 := Lib.hid h1
    clear h1
    go_enter Tryz.func98, Tryz.ntmps98
    go_wp2_with fail
    refine (isReplica_any _ _ _).mono ?_
    rintro e w' ⟨rfl, rfl⟩
    rw [H1.out]
    go_wp2
    go_ret
    exact ⟨rfl, Ext.alloc1 _ _⟩
  · cases h2 : repB n r.tt
    · have H1 := Lib.hid h1
      have H2 := Lib.hid h2
      clear h1 h2
      go_enter Tryz.func98, Tryz.ntmps98
      go_wp2_with fail
      refine (isReplica_any _ _ _).mono ?_
      rintro e w' ⟨rfl, rfl⟩
      rw [H1.out]
      go_wp2_with fail
      refine (isReplica_any _ _ _).mono ?_
      rintro e w' ⟨rfl, rfl⟩
      rw [H2.out]
      go_wp2
      go_ret
      exact ⟨rfl, Ext.alloc1 _ _⟩
    · cases h3 : (r.fr == r.tt)
      · have h3' : (r.fr != r.tt) = true := by simpa using h3
        cases h4 : (repB n r.rp && inB r.no 1 6)
        all_goals
          have H1 := Lib.hid h1
          have H2 := Lib.hid h2
          have H4 := Lib.hid h4
          clear h1 h2 h4
          clear h3
          go_enter Tryz.func98, Tryz.ntmps98
          go_wp2_with fail
          refine (isReplica_any _ _ _).mono ?_
          rintro e w' ⟨rfl, rfl⟩
          rw [H1.out]
          go_wp2_with fail
          refine (isReplica_any _ _ _).mono ?_
          rintro e w' ⟨rfl, rfl⟩
          rw [H2.out]
          go_wp2_with fail
          refine (isInstance_all _ _ _ _).mono ?_
          rintro e w' ⟨rfl, rfl⟩
          rw [H4.out]
          go_wp2
          go_ret
          exact ⟨rfl, Ext.alloc1 _ _⟩
      · have h3' : (r.fr != r.tt) = false := by simpa using h3
        have H1 := Lib.hid h1
        have H2 := Lib.hid h2
        clear h1 h2
        clear h3
        go_enter Tryz.func98, Tryz.ntmps98
        go_wp2_with fail
        refine (isReplica_any _ _ _).mono ?_
        rintro e w' ⟨rfl, rfl⟩
        rw [H1.out]
        go_wp2_with fail
        refine (isReplica_any _ _ _).mono ?_
        rintro e w' ⟨rfl, rfl⟩
        rw [H2.out]
        go_wp2
        go_ret
        exact ⟨rfl, Ext.alloc1 _ _⟩

set_option maxHeartbeats 2000000 in
set_option maxRecDepth 100000 in
theorem isGoodBallot_proposal (b : Int) (x : Value) (w : World) :
    Calls Tryz.prog 99 #[.int .i64 b, .iface 174 x] w (BoolExt (inB b 0 9999) w) := by
  have ta : ∀ W, (Instr.typeAssert (.iface 174 x) 150 177 true).run Tryz.prog W = .ok (.tuple #[(.agg #[.int .i64 0, .int .i64 0, .int .i64 0, .int .i64 0, .int .i64 0, .int .i64 0, .slice none 0 0]), .bool false]) W := fun W => by kernel_rfl
  by_cases h0 : 0 ≤ b
  · by_cases h1 : b ≤ 9999
    · rw [inB_yes h0 h1]
      go_enter Tryz.func99, Tryz.ntmps99
      go_wp2
      go_ret
      exact ⟨rfl, by repeat (first | exact Ext.refl _ | apply Ext.alloc | apply Ext.setc)⟩
    · rw [inB_no (by omega)]
      have e1 : decide (b ≤ 9999) = false := decide_eq_false h1
      clear h1
      go_enter Tryz.func99, Tryz.ntmps99
      go_wp2
      go_ret
      exact ⟨rfl, by repeat (first | exact Ext.refl _ | apply Ext.alloc | apply Ext.setc)⟩
  · rw [inB_no (by omega)]
    have e1 : decide (0 ≤ b) = false := decide_eq_false h0
    have e2 : b < 0 := by omega
    clear h0
    go_enter Tryz.func99, Tryz.ntmps99
    go_wp2
    go_ret
    exact ⟨rfl, by repeat (first | exact Ext.refl _ | apply Ext.alloc | apply Ext.setc)⟩

set_option maxHeartbeats 2000000 in
set_option maxRecDepth 100000 in
theorem isGoodBallot_opinion (b : Int) (x : Value) (w : World) :
    Calls Tryz.prog 99 #[.int .i64 b, .iface 176 x] w (BoolExt (inB b 0 9999) w) := by
  have ta : ∀ W, (Instr.typeAssert (.iface 176 x) 150 177 true).run Tryz.prog W = .ok (.tuple #[(.agg #[.int .i64 0, .int .i64 0, .int .i64 0, .int .i64 0, .int .i64 0, .int .i64 0, .slice none 0 0]), .bool false]) W := fun W => by kernel_rfl
  by_cases h0 : 0 ≤ b
  · by_cases h1 : b ≤ 9999
    · rw [inB_yes h0 h1]
      go_enter Tryz.func99, Tryz.ntmps99
      go_wp2
      go_ret
      exact ⟨rfl, by repeat (first | exact Ext.refl _ | apply Ext.alloc | apply Ext.setc)⟩
    · rw [inB_no (by omega)]
      have e1 : decide (b ≤ 9999) = false := decide_eq_false h1
      clear h1
      go_enter Tryz.func99, Tryz.ntmps99
      go_wp2
      go_ret
      exact ⟨rfl, by repeat (first | exact Ext.refl _ | apply Ext.alloc | apply Ext.setc)⟩
  · rw [inB_no (by omega)]
    have e1 : decide (0 ≤ b) = false := decide_eq_false h0
    have e2 : b < 0 := by omega
    clear h0
    go_enter Tryz.func99, Tryz.ntmps99
    go_wp2
    go_ret
    exact ⟨rfl, by repeat (first | exact Ext.refl _ | apply Ext.alloc | apply Ext.setc)⟩

set_option maxHeartbeats 2000000 in
set_option maxRecDepth 100000 in
theorem isGoodBallot_report (b : Int) (x : Value) (w : World) :
    Calls Tryz.prog 99 #[.int .i64 b, .iface 179 x] w (BoolExt (inB b 0 9999) w) := by
  have ta : ∀ W, (Instr.typeAssert (.iface 179 x) 150 177 true).run Tryz.prog W = .ok (.tuple #[(.agg #[.int .i64 0, .int .i64 0, .int .i64 0, .int .i64 0, .int .i64 0, .int .i64 0, .slice none 0 0]), .bool false]) W := fun W => by kernel_rfl
  by_cases h0 : 0 ≤ b
  · by_cases h1 : b ≤ 9999
    · rw [inB_yes h0 h1]
      go_enter Tryz.func99, Tryz.ntmps99
      go_wp2
      go_ret
      exact ⟨rfl, by repeat (first | exact Ext.refl _ | apply Ext.alloc | apply Ext.setc)⟩
    · rw [inB_no (by omega)]
      have e1 : decide (b ≤ 9999) = false := decide_eq_false h1
      clear h1
      go_enter Tryz.func99, Tryz.ntmps99
      go_wp2
      go_ret
      exact ⟨rfl, by repeat (first | exact Ext.refl _ | apply Ext.alloc | apply Ext.setc)⟩
  · rw [inB_no (by omega)]
    have e1 : decide (0 ≤ b) = false := decide_eq_false h0
    have e2 : b < 0 := by omega
    clear h0
    go_enter Tryz.func99, Tryz.ntmps99
    go_wp2
    go_ret
    exact ⟨rfl, by repeat (first | exact Ext.refl _ | apply Ext.alloc | apply Ext.setc)⟩

set_option maxHeartbeats 2000000 in
set_option maxRecDepth 100000 in
theorem isGoodBallot_nothing (b : Int) (x : Value) (w : World) :
    Calls Tryz.prog 99 #[.int .i64 b, .iface 182 x] w (BoolExt (inB b 0 9999) w) := by
  have ta : ∀ W, (Instr.typeAssert (.iface 182 x) 150 177 true).run Tryz.prog W = .ok (.tuple #[(.agg #[.int .i64 0, .int .i64 0, .int .i64 0, .int .i64 0, .int .i64 0, .int .i64 0, .slice none 0 0]), .bool false]) W := fun W => by kernel_rfl
  by_cases h0 : 0 ≤ b
  · by_cases h1 : b ≤ 9999
    · rw [inB_yes h0 h1]
      go_enter Tryz.func99, Tryz.ntmps99
      go_wp2
      go_ret
      exact ⟨rfl, by repeat (first | exact Ext.refl _ | apply Ext.alloc | apply Ext.setc)⟩
    · rw [inB_no (by omega)]
      have e1 : decide (b ≤ 9999) = false := decide_eq_false h1
      clear h1
      go_enter Tryz.func99, Tryz.ntmps99
      go_wp2
      go_ret
      exact ⟨rfl, by repeat (first | exact Ext.refl _ | apply Ext.alloc | apply Ext.setc)⟩
  · rw [inB_no (by omega)]
    have e1 : decide (0 ≤ b) = false := decide_eq_false h0
    have e2 : b < 0 := by omega
    clear h0
    go_enter Tryz.func99, Tryz.ntmps99
    go_wp2
    go_ret
    exact ⟨rfl, by repeat (first | exact Ext.refl _ | apply Ext.alloc | apply Ext.setc)⟩

set_option maxHeartbeats 2000000 in
set_option maxRecDepth 100000 in
theorem isGoodBallot_outcome (b : Int) (r : MsgD) (u : Value) (w : World) (hv : Ints w u r.l) :
    Calls Tryz.prog 99 #[.int .i64 b, .iface 177 (.agg #[.int .i64 r.k, .int .i64 r.i, .int .i64 r.f, .int .i64 r.t, .int .i64 r.a, .int .i64 r.s, u])] w (BoolExt (b == 0) w) := by
  obtain ⟨au, cu, rfl, _⟩ := hv
  have ta : ∀ W, (Instr.typeAssert (.iface 177 (.agg #[.int .i64 r.k, .int .i64 r.i, .int .i64 r.f, .int .i64 r.t, .int .i64 r.a, .int .i64 r.s, (.slice au r.l.length cu)])) 150 177 true).run Tryz.prog W = .ok (.tuple #[(.agg #[.int .i64 r.k, .int .i64 r.i, .int .i64 r.f, .int .i64 r.t, .int .i64 r.a, .int .i64 r.s, (.slice au r.l.length cu)]), .bool true]) W := fun W => by kernel_rfl
  go_enter Tryz.func99, Tryz.ntmps99
  go_wp2
  go_ret
  exact ⟨rfl, by repeat (first | exact Ext.refl _ | apply Ext.alloc | apply Ext.setc)⟩

set_option maxHeartbeats 2000000 in
set_option maxRecDepth 100000 in
theorem isGood_proposal (n : Int) (r : MsgD) (u : Value) (w : World) (hv : Ints w u r.l) :
    Calls Tryz.prog 161 #[.agg #[.int .i64 r.k, .int .i64 r.i, .int .i64 r.f, .int .i64 r.t, .int .i64 r.a, .int .i64 r.s, u], .int .i64 n] w (BoolExt (goodB r.k r.i r.f r.t r.a && goodA n r.s r.l) w) := by
  obtain ⟨wb, hwb⟩ : ∃ wb, wb = w.alloc (.cells #[.int .i64 r.k, .int .i64 r.i, .int .i64 r.f, .int .i64 r.t, .int .i64 r.a, .int .i64 r.s, u] 174) := ⟨_, rfl⟩
  have xb : Ext w wb := by rw [hwb]; exact Ext.alloc1 _ _
  have c5 : wb.cell? ⟨w.heap.size, 5, none⟩ = some (.int .i64 r.s) := by rw [hwb]; go_simp
  have c6 : wb.cell? ⟨w.heap.size, 6, none⟩ = some u := by rw [hwb]; go_simp
  have HWB := Lib.hid hwb
  have HC := Lib.hid (And.intro c5 c6)
  clear hwb c5 c6
  cases hg : goodB r.k r.i r.f r.t r.a
  · have HG := Lib.hid hg
    clear hg
    go_enter Tryz.func161, Tryz.ntmps161
    go_wp2_with fail
    rw [← HWB.out]
    refine (implGood_any _ _ _ _ _ _).mono ?_
    rintro e w1 ⟨rfl, x1⟩
    have hx := xb.trans x1
    rw [HG.out]
    clear x1
    go_wp2
    go_ret
    exact ⟨rfl, hx⟩
  · rw [Bool.true_and]
    have HG := Lib.hid hg
    clear hg
    go_enter Tryz.func161, Tryz.ntmps161
    go_wp2_with fail
    rw [← HWB.out]
    refine (implGood_any _ _ _ _ _ _).mono ?_
    rintro e w1 ⟨rfl, x1⟩
    have hx := xb.trans x1
    rw [HG.out]
    have c5 := x1.cell HC.out.1
    have c6 := x1.cell HC.out.2
    clear x1
    go_wp2_with fail
    refine (implGoodAttr_any _ _ _ r.l _ (hv.ext hx)).mono ?_
    rintro e w2 ⟨rfl, x2⟩
    have hy := hx.trans x2
    clear x2 hx c5 c6
    cases hA : goodA n r.s r.l
    all_goals
      have HA := Lib.hid hA
      clear hA
      go_wp2
      go_ret
      exact ⟨by rw [HA.out]; rfl, hy⟩

set_option maxHeartbeats 2000000 in
set_option maxRecDepth 100000 in
theorem isGood_outcome (n : Int) (r : MsgD) (u : Value) (w : World) (hv : Ints w u r.l) :
    Calls Tryz.prog 163 #[.agg #[.int .i64 r.k, .int .i64 r.i, .int .i64 r.f, .int .i64 r.t, .int .i64 r.a, .int .i64 r.s, u], .int .i64 n] w (BoolExt (goodB r.k r.i r.f r.t r.a && goodA n r.s r.l) w) := by
  obtain ⟨wb, hwb⟩ : ∃ wb, wb = w.alloc (.cells #[.int .i64 r.k, .int .i64 r.i, .int .i64 r.f, .int .i64 r.t, .int .i64 r.a, .int .i64 r.s, u] 177) := ⟨_, rfl⟩
  have xb : Ext w wb := by rw [hwb]; exact Ext.alloc1 _ _
  have c5 : wb.cell? ⟨w.heap.size, 5, none⟩ = some (.int .i64 r.s) := by rw [hwb]; go_simp
  have c6 : wb.cell? ⟨w.heap.size, 6, none⟩ = some u := by rw [hwb]; go_simp
  have HWB := Lib.hid hwb
  have HC := Lib.hid (And.intro c5 c6)
  clear hwb c5 c6
  cases hg : goodB r.k r.i r.f r.t r.a
  · have HG := Lib.hid hg
    clear hg
    go_enter Tryz.func163, Tryz.ntmps163
    go_wp2_with fail
    rw [← HWB.out]
    refine (implGood_any _ _ _ _ _ _).mono ?_
    rintro e w1 ⟨rfl, x1⟩
    have hx := xb.trans x1
    rw [HG.out]
    clear x1
    go_wp2
    go_ret
    exact ⟨rfl, hx⟩
  · rw [Bool.true_and]
    have HG := Lib.hid hg
    clear hg
    go_enter Tryz.func163, Tryz.ntmps163
    go_wp2_with fail
    rw [← HWB.out]
    refine (implGood_any _ _ _ _ _ _).mono ?_
    rintro e w1 ⟨rfl, x1⟩
    have hx := xb.trans x1
    rw [HG.out]
    have c5 := x1.cell HC.out.1
    have c6 := x1.cell HC.out.2
    clear x1
    go_wp2_with fail
    refine (implGoodAttr_any _ _ _ r.l _ (hv.ext hx)).mono ?_
    rintro e w2 ⟨rfl, x2⟩
    have hy := hx.trans x2
    clear x2 hx c5 c6
    cases hA : goodA n r.s r.l
    all_goals
      have HA := Lib.hid hA
      clear hA
      go_wp2
      go_ret
      exact ⟨by rw [HA.out]; rfl, hy⟩

set_option maxHeartbeats 2000000 in
set_option maxRecDepth 100000 in
theorem isGood_opinion (n : Int) (r : MsgD) (u : Value) (w : World) (hv : Ints w u r.l) :
    Calls Tryz.prog 162 #[.agg #[.int .i64 r.s, u], .int .i64 n] w (BoolExt (goodA n r.s r.l) w) := by
  have xb := Ext.alloc1 w (.cells #[.int .i64 r.s, u] 176)
  go_enter Tryz.func162, Tryz.ntmps162
  go_wp2_with fail
  refine (implGoodAttr_any _ _ _ r.l _ (hv.ext xb)).mono ?_
  rintro e w2 ⟨rfl, x2⟩
  have hy := xb.trans x2
  clear x2 xb
  cases hA : goodA n r.s r.l
  all_goals
    have HA := Lib.hid hA
    clear hA
    go_wp2
    go_ret
    exact ⟨by rw [HA.out]; rfl, hy⟩

set_option maxHeartbeats 2000000 in
set_option maxRecDepth 100000 in
theorem isGood_nothing (n : Int) (w : World) :
    Calls Tryz.prog 164 #[.agg #[], .int .i64 n] w (BoolExt true w) := by
  go_enter Tryz.func164, Tryz.ntmps164
  go_wp2
  go_ret
  exact ⟨rfl, Ext.alloc1 _ _⟩

def rowM (r : MsgD) : RowD := ⟨r.b, r.v, r.st, r.k, r.i, r.f, r.t, r.a, r.s, r.l⟩
set_option maxHeartbeats 2000000 in
set_option maxRecDepth 100000 in
theorem isGood_report (n : Int) (r : MsgD) (u : Value) (w : World) (hv : Ints w u r.l) (hn : isGrp n = true) (hs : r.l.length ≤ 1099511627776) :
    Calls Tryz.prog 136 #[.agg #[.int .i64 r.b, .int .i64 r.v, .int .i64 r.st, .int .i64 r.k, .int .i64 r.i, .int .i64 r.f, .int .i64 r.t, .int .i64 r.a, .int .i64 r.s, u], .int .i64 n] w (BoolExt (!(r.st == 3) && goodRow n (rowM r)) w) := by
  have xb := Ext.alloc1 w (.cells #[.int .i64 r.b, .int .i64 r.v, .int .i64 r.st, .int .i64 r.k, .int .i64 r.i, .int .i64 r.f, .int .i64 r.t, .int .i64 r.a, .int .i64 r.s, u] 179)
  cases h3 : (r.st == 3)
  · have h3' : (r.st != 3) = true := by simpa using h3
    have HV := Lib.hid (hv.ext xb)
    clear h3 hv
    go_enter Tryz.func136, Tryz.ntmps136
    go_wp2_with fail
    refine (isGoodRow_any n (rowM r) u _ HV.out hs hn).mono ?_
    rintro e w2 ⟨rfl, x2⟩
    have hy := xb.trans x2
    clear x2 xb HV
    cases hA : goodRow n (rowM r)
    all_goals
      have HA := Lib.hid hA
      clear hA
      go_wp2
      go_ret
      exact ⟨by rw [HA.out]; rfl, hy⟩
  · have h3' : (r.st != 3) = false := by simpa using h3
    clear h3
    go_enter Tryz.func136, Tryz.ntmps136
    go_wp2
    go_ret
    exact ⟨rfl, xb⟩
end Go.Proofs.YtbffkidkfannhaaGreat
