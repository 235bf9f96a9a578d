/- Texts of this proof, part b: words, plain facts, contracts. -/
import Derived.Test.YtfffddhfagibpaaMApplyCmda
import Derived.Deep.RegionHeld3

namespace Go.Proofs.Ytfffddhfagibpaa
open Go.RowKit

def acctB (n : Int) : Bool := inB n 0 3
theorem acctB_yes {n : Int} (h : acctB n = true) : 0 ≤ n ∧ n ≤ 3 := by unfold acctB inB at h; simpa using h

theorem l2Account_any (n : Int) (w : World) :
    Calls Try.prog 108 #[.int .i64 n] w fun e w' => e = .returned (.bool (acctB n)) ∧ w = w' := by
  go_enter Try.func108, Try.ntmps108
  go_wp2_with (go_at_call 46; refine (l1In_any _ _ _ _).mono ?_; rintro e w' ⟨rfl, rfl⟩)
  go_ret
  exact ⟨rfl, rfl⟩

theorem isAccount_any (n : Int) (w : World) :
    Calls Try.prog 109 #[.int .i64 n] w fun e w' => e = .returned (.bool (acctB n)) ∧ w = w' := by
  unfold acctB
  by_cases h1 : 0 ≤ n
  · by_cases h2 : n < 4
    · go_enter Try.func109, Try.ntmps109
      go_wp2
      go_ret
      exact ⟨by rw [inB_yes h1 (by omega)]; rfl, rfl⟩
    · go_enter Try.func109, Try.ntmps109
      go_wp2
      go_ret
      exact ⟨by rw [inB_no (by omega)]; rfl, rfl⟩
  · go_enter Try.func109, Try.ntmps109
    go_wp2
    go_ret
    exact ⟨by rw [inB_no (by omega)]; rfl, rfl⟩

theorem isCmdId_any (n : Int) (w : World) :
    Calls Try.prog 110 #[.int .i64 n] w fun e w' => e = .returned (.bool (inB n 1 999)) ∧ w = w' := by
  by_cases h1 : 1 ≤ n
  · by_cases h2 : n ≤ 999
    · go_enter Try.func110, Try.ntmps110
      go_wp2
      go_ret
      exact ⟨by rw [inB_yes h1 (by omega)]; rfl, rfl⟩
    · go_enter Try.func110, Try.ntmps110
      go_wp2
      go_ret
      exact ⟨by rw [inB_no (by omega)]; rfl, rfl⟩
  · go_enter Try.func110, Try.ntmps110
    go_wp2
    go_ret
    exact ⟨by rw [inB_no (by omega)]; rfl, rfl⟩

theorem isAmount_any (n : Int) (w : World) :
    Calls Try.prog 111 #[.int .i64 n] w fun e w' => e = .returned (.bool (inB n 1 1000)) ∧ w = w' := by
  by_cases h1 : 1 ≤ n
  · by_cases h2 : n ≤ 1000
    · go_enter Try.func111, Try.ntmps111
      go_wp2
      go_ret
      exact ⟨by rw [inB_yes h1 (by omega)]; rfl, rfl⟩
    · go_enter Try.func111, Try.ntmps111
      go_wp2
      go_ret
      exact ⟨by rw [inB_no (by omega)]; rfl, rfl⟩
  · go_enter Try.func111, Try.ntmps111
    go_wp2
    go_ret
    exact ⟨by rw [inB_no (by omega)]; rfl, rfl⟩

/-- What is wrong with a command that moves. -/
def codeM (i f t a : Int) : Int := if acctB f then (if acctB t then (if f == t then 5 else if inB i 1 999 then (if inB a 1 1000 then 0 else 6) else 6) else 4) else 4
/-- What is wrong with another one. -/
def codeR (i f : Int) : Int := if acctB f then (if inB i 1 999 then 0 else 6) else 4

set_option maxHeartbeats 1000000 in
theorem l2Code_move (i f t a : Int) (w : World) :
    Calls Try.prog 81 #[.agg #[.int .i64 1, .int .i64 i, .int .i64 f, .int .i64 t, .int .i64 a]] w (IntExt (codeM i f t a) w) := by
  unfold codeM
  cases h0 : acctB f with
  | false =>
    go_enter Try.func81, Try.ntmps81
    go_wp2_with (first | (go_at_call 108; refine (l2Account_any _ _).mono ?_; rintro e w' ⟨rfl, rfl⟩) | (go_at_call 46; refine (l1In_any _ _ _ _).mono ?_; rintro e w' ⟨rfl, rfl⟩))
    go_ret
    exact ⟨rfl, by repeat (first | exact Ext.refl _ | apply Ext.drew | apply Ext.alloc)⟩
  | true =>
    cases h1 : acctB t with
    | false =>
      go_enter Try.func81, Try.ntmps81
      go_wp2_with (first | (go_at_call 108; refine (l2Account_any _ _).mono ?_; rintro e w' ⟨rfl, rfl⟩) | (go_at_call 46; refine (l1In_any _ _ _ _).mono ?_; rintro e w' ⟨rfl, rfl⟩))
      go_ret
      exact ⟨rfl, by repeat (first | exact Ext.refl _ | apply Ext.drew | apply Ext.alloc)⟩
    | true =>
      cases h2 : (f == t) with
      | true =>
        go_enter Try.func81, Try.ntmps81
        go_wp2_with (first | (go_at_call 108; refine (l2Account_any _ _).mono ?_; rintro e w' ⟨rfl, rfl⟩) | (go_at_call 46; refine (l1In_any _ _ _ _).mono ?_; rintro e w' ⟨rfl, rfl⟩))
        go_ret
        exact ⟨rfl, by repeat (first | exact Ext.refl _ | apply Ext.drew | apply Ext.alloc)⟩
      | false =>
        cases h3 : inB i 1 999 with
        | false =>
          go_enter Try.func81, Try.ntmps81
          go_wp2_with (first | (go_at_call 108; refine (l2Account_any _ _).mono ?_; rintro e w' ⟨rfl, rfl⟩) | (go_at_call 46; refine (l1In_any _ _ _ _).mono ?_; rintro e w' ⟨rfl, rfl⟩))
          go_ret
          exact ⟨rfl, by repeat (first | exact Ext.refl _ | apply Ext.drew | apply Ext.alloc)⟩
        | true =>
          cases h4 : inB a 1 1000 with
          | false =>
            go_enter Try.func81, Try.ntmps81
            go_wp2_with (first | (go_at_call 108; refine (l2Account_any _ _).mono ?_; rintro e w' ⟨rfl, rfl⟩) | (go_at_call 46; refine (l1In_any _ _ _ _).mono ?_; rintro e w' ⟨rfl, rfl⟩))
            go_ret
            exact ⟨rfl, by repeat (first | exact Ext.refl _ | apply Ext.drew | apply Ext.alloc)⟩
          | true =>
            go_enter Try.func81, Try.ntmps81
            go_wp2_with (first | (go_at_call 108; refine (l2Account_any _ _).mono ?_; rintro e w' ⟨rfl, rfl⟩) | (go_at_call 46; refine (l1In_any _ _ _ _).mono ?_; rintro e w' ⟨rfl, rfl⟩))
            go_ret
            exact ⟨rfl, by repeat (first | exact Ext.refl _ | apply Ext.drew | apply Ext.alloc)⟩

set_option maxHeartbeats 1000000 in
theorem l2Code_read (k i f t a : Int) (w : World) (hk : (k == 1) = false) (_hk0 : (k == 0) = false) :
    Calls Try.prog 81 #[.agg #[.int .i64 k, .int .i64 i, .int .i64 f, .int .i64 t, .int .i64 a]] w (IntExt (codeR i f) w) := by
  unfold codeR
  cases h0 : acctB f with
  | false =>
    go_enter Try.func81, Try.ntmps81
    go_wp2_with (first | (go_at_call 108; refine (l2Account_any _ _).mono ?_; rintro e w' ⟨rfl, rfl⟩) | (go_at_call 46; refine (l1In_any _ _ _ _).mono ?_; rintro e w' ⟨rfl, rfl⟩))
    go_ret
    exact ⟨rfl, by repeat (first | exact Ext.refl _ | apply Ext.drew | apply Ext.alloc)⟩
  | true =>
    cases h1 : inB i 1 999 with
    | false =>
      go_enter Try.func81, Try.ntmps81
      go_wp2_with (first | (go_at_call 108; refine (l2Account_any _ _).mono ?_; rintro e w' ⟨rfl, rfl⟩) | (go_at_call 46; refine (l1In_any _ _ _ _).mono ?_; rintro e w' ⟨rfl, rfl⟩))
      go_ret
      exact ⟨rfl, by repeat (first | exact Ext.refl _ | apply Ext.drew | apply Ext.alloc)⟩
    | true =>
      go_enter Try.func81, Try.ntmps81
      go_wp2_with (first | (go_at_call 108; refine (l2Account_any _ _).mono ?_; rintro e w' ⟨rfl, rfl⟩) | (go_at_call 46; refine (l1In_any _ _ _ _).mono ?_; rintro e w' ⟨rfl, rfl⟩))
      go_ret
      exact ⟨rfl, by repeat (first | exact Ext.refl _ | apply Ext.drew | apply Ext.alloc)⟩

set_option maxHeartbeats 1000000 in
theorem faultOfCmd_move (i f t a : Int) (w : World) :
    Calls Try.prog 83 #[.agg #[.int .i64 1, .int .i64 i, .int .i64 f, .int .i64 t, .int .i64 a]] w (IntExt (codeM i f t a) w) := by
  unfold codeM
  cases h0 : acctB f with
  | false =>
    go_enter Try.func83, Try.ntmps83
    go_wp2_with (first | (go_at_call 109; refine (isAccount_any _ _).mono ?_; rintro e w' ⟨rfl, rfl⟩) | (go_at_call 110; refine (isCmdId_any _ _).mono ?_; rintro e w' ⟨rfl, rfl⟩) | (go_at_call 111; refine (isAmount_any _ _).mono ?_; rintro e w' ⟨rfl, rfl⟩))
    go_ret
    exact ⟨rfl, by repeat (first | exact Ext.refl _ | apply Ext.drew | apply Ext.alloc)⟩
  | true =>
    cases h1 : acctB t with
    | false =>
      go_enter Try.func83, Try.ntmps83
      go_wp2_with (first | (go_at_call 109; refine (isAccount_any _ _).mono ?_; rintro e w' ⟨rfl, rfl⟩) | (go_at_call 110; refine (isCmdId_any _ _).mono ?_; rintro e w' ⟨rfl, rfl⟩) | (go_at_call 111; refine (isAmount_any _ _).mono ?_; rintro e w' ⟨rfl, rfl⟩))
      go_ret
      exact ⟨rfl, by repeat (first | exact Ext.refl _ | apply Ext.drew | apply Ext.alloc)⟩
    | true =>
      cases h2 : (f == t) with
      | true =>
        go_enter Try.func83, Try.ntmps83
        go_wp2_with (first | (go_at_call 109; refine (isAccount_any _ _).mono ?_; rintro e w' ⟨rfl, rfl⟩) | (go_at_call 110; refine (isCmdId_any _ _).mono ?_; rintro e w' ⟨rfl, rfl⟩) | (go_at_call 111; refine (isAmount_any _ _).mono ?_; rintro e w' ⟨rfl, rfl⟩))
        go_ret
        exact ⟨rfl, by repeat (first | exact Ext.refl _ | apply Ext.drew | apply Ext.alloc)⟩
      | false =>
        cases h3 : inB i 1 999 with
        | false =>
          go_enter Try.func83, Try.ntmps83
          go_wp2_with (first | (go_at_call 109; refine (isAccount_any _ _).mono ?_; rintro e w' ⟨rfl, rfl⟩) | (go_at_call 110; refine (isCmdId_any _ _).mono ?_; rintro e w' ⟨rfl, rfl⟩) | (go_at_call 111; refine (isAmount_any _ _).mono ?_; rintro e w' ⟨rfl, rfl⟩))
          go_ret
          exact ⟨rfl, by repeat (first | exact Ext.refl _ | apply Ext.drew | apply Ext.alloc)⟩
        | true =>
          cases h4 : inB a 1 1000 with
          | false =>
            go_enter Try.func83, Try.ntmps83
            go_wp2_with (first | (go_at_call 109; refine (isAccount_any _ _).mono ?_; rintro e w' ⟨rfl, rfl⟩) | (go_at_call 110; refine (isCmdId_any _ _).mono ?_; rintro e w' ⟨rfl, rfl⟩) | (go_at_call 111; refine (isAmount_any _ _).mono ?_; rintro e w' ⟨rfl, rfl⟩))
            go_ret
            exact ⟨rfl, by repeat (first | exact Ext.refl _ | apply Ext.drew | apply Ext.alloc)⟩
          | true =>
            go_enter Try.func83, Try.ntmps83
            go_wp2_with (first | (go_at_call 109; refine (isAccount_any _ _).mono ?_; rintro e w' ⟨rfl, rfl⟩) | (go_at_call 110; refine (isCmdId_any _ _).mono ?_; rintro e w' ⟨rfl, rfl⟩) | (go_at_call 111; refine (isAmount_any _ _).mono ?_; rintro e w' ⟨rfl, rfl⟩))
            go_ret
            exact ⟨rfl, by repeat (first | exact Ext.refl _ | apply Ext.drew | apply Ext.alloc)⟩

set_option maxHeartbeats 1000000 in
theorem faultOfCmd_read (k i f t a : Int) (w : World) (hk : (k == 1) = false) (_hk0 : (k == 0) = false) :
    Calls Try.prog 83 #[.agg #[.int .i64 k, .int .i64 i, .int .i64 f, .int .i64 t, .int .i64 a]] w (IntExt (codeR i f) w) := by
  unfold codeR
  cases h0 : acctB f with
  | false =>
    go_enter Try.func83, Try.ntmps83
    go_wp2_with (first | (go_at_call 109; refine (isAccount_any _ _).mono ?_; rintro e w' ⟨rfl, rfl⟩) | (go_at_call 110; refine (isCmdId_any _ _).mono ?_; rintro e w' ⟨rfl, rfl⟩) | (go_at_call 111; refine (isAmount_any _ _).mono ?_; rintro e w' ⟨rfl, rfl⟩))
    go_ret
    exact ⟨rfl, by repeat (first | exact Ext.refl _ | apply Ext.drew | apply Ext.alloc)⟩
  | true =>
    cases h1 : inB i 1 999 with
    | false =>
      go_enter Try.func83, Try.ntmps83
      go_wp2_with (first | (go_at_call 109; refine (isAccount_any _ _).mono ?_; rintro e w' ⟨rfl, rfl⟩) | (go_at_call 110; refine (isCmdId_any _ _).mono ?_; rintro e w' ⟨rfl, rfl⟩) | (go_at_call 111; refine (isAmount_any _ _).mono ?_; rintro e w' ⟨rfl, rfl⟩))
      go_ret
      exact ⟨rfl, by repeat (first | exact Ext.refl _ | apply Ext.drew | apply Ext.alloc)⟩
    | true =>
      go_enter Try.func83, Try.ntmps83
      go_wp2_with (first | (go_at_call 109; refine (isAccount_any _ _).mono ?_; rintro e w' ⟨rfl, rfl⟩) | (go_at_call 110; refine (isCmdId_any _ _).mono ?_; rintro e w' ⟨rfl, rfl⟩) | (go_at_call 111; refine (isAmount_any _ _).mono ?_; rintro e w' ⟨rfl, rfl⟩))
      go_ret
      exact ⟨rfl, by repeat (first | exact Ext.refl _ | apply Ext.drew | apply Ext.alloc)⟩

end Go.Proofs.Ytfffddhfagibpaa

namespace Go.Proofs.Ytfffddhfagibpaa
open Go.RowKit
set_option linter.unusedVariables false

def zeroB (i f t a : Int) : Bool := i == 0 && (f == 0 && (t == 0 && a == 0))
/-- Whether a command is good. -/
def goodB (k i f t a : Int) : Bool := if k == 0 then zeroB i f t a else if k == 1 then codeM i f t a == 0 else if k == 2 then (codeR i f == 0 && t == 0) && a == 0 else false
theorem goodB_0 (i f t a : Int) : goodB 0 i f t a = zeroB i f t a := rfl
theorem goodB_1 (i f t a : Int) : goodB 1 i f t a = (codeM i f t a == 0) := rfl
theorem goodB_2 (i f t a : Int) : goodB 2 i f t a = ((codeR i f == 0 && t == 0) && a == 0) := rfl
theorem goodB_else {k : Int} (i f t a : Int) (h0 : (k == 0) = false) (h1 : (k == 1) = false) (h2 : (k == 2) = false) : goodB k i f t a = false := by
  unfold goodB; simp [h0, h1, h2]

set_option maxHeartbeats 1000000 in
theorem specGood_0 (i f t a : Int) (w : World) :
    Calls Try.prog 48 #[.agg #[.int .i64 0, .int .i64 i, .int .i64 f, .int .i64 t, .int .i64 a]] w (BoolExt (zeroB i f t a) w) := by
  unfold zeroB
  go_enter Try.func48, Try.ntmps48
  go_wp2
  all_goals go_ret
  all_goals refine ⟨?_, by repeat (first | assumption | exact Ext.refl _ | apply Ext.drew | apply Ext.alloc)⟩
  all_goals first | rfl | simp [*]

set_option maxHeartbeats 1000000 in
theorem specGood_1 (i f t a : Int) (w : World) :
    Calls Try.prog 48 #[.agg #[.int .i64 1, .int .i64 i, .int .i64 f, .int .i64 t, .int .i64 a]] w (BoolExt (codeM i f t a == 0) w) := by
  go_enter Try.func48, Try.ntmps48
  go_wp2_with fail
  refine (l2Code_move _ _ _ _ _).mono ?_
  rintro e w' ⟨rfl, hx⟩
  go_wp2
  go_ret
  exact ⟨rfl, Ext.trans (Ext.alloc (Ext.refl _) _) hx⟩

set_option maxHeartbeats 1000000 in
theorem specGood_2 (i f t a : Int) (w : World) :
    Calls Try.prog 48 #[.agg #[.int .i64 2, .int .i64 i, .int .i64 f, .int .i64 t, .int .i64 a]] w (BoolExt ((codeR i f == 0 && t == 0) && a == 0) w) := by
  by_cases ht : t = 0
  · by_cases ha : a = 0
    · subst ht; subst ha
      cases hc : (codeR i f == 0) with
      | false =>
        go_enter Try.func48, Try.ntmps48
        go_wp2_with fail
        refine (l2Code_read 2 _ _ _ _ _ rfl rfl).mono ?_
        rintro e w' ⟨rfl, hx⟩
        go_wp2
        go_ret
        exact ⟨rfl, Ext.trans (Ext.alloc (Ext.refl _) _) hx⟩
      | true =>
        go_enter Try.func48, Try.ntmps48
        go_wp2_with fail
        refine (l2Code_read 2 _ _ _ _ _ rfl rfl).mono ?_
        rintro e w' ⟨rfl, hx⟩
        have c1 := hx.cell (a := ⟨w.heap.size, 3, none⟩) (v := .int .i64 0) (by go_simp)
        have c2 := hx.cell (a := ⟨w.heap.size, 4, none⟩) (v := .int .i64 0) (by go_simp)
        go_wp2
        go_ret
        exact ⟨rfl, Ext.trans (Ext.alloc (Ext.refl _) _) hx⟩
    · have e2 : (a == 0) = false := by simp [ha]
      subst ht
      cases hc : (codeR i f == 0) with
      | false =>
        go_enter Try.func48, Try.ntmps48
        go_wp2_with fail
        refine (l2Code_read 2 _ _ _ _ _ rfl rfl).mono ?_
        rintro e w' ⟨rfl, hx⟩
        go_wp2
        go_ret
        exact ⟨rfl, Ext.trans (Ext.alloc (Ext.refl _) _) hx⟩
      | true =>
        go_enter Try.func48, Try.ntmps48
        go_wp2_with fail
        refine (l2Code_read 2 _ _ _ _ _ rfl rfl).mono ?_
        rintro e w' ⟨rfl, hx⟩
        have c1 := hx.cell (a := ⟨w.heap.size, 3, none⟩) (v := .int .i64 0) (by go_simp)
        have c2 := hx.cell (a := ⟨w.heap.size, 4, none⟩) (v := .int .i64 a) (by go_simp)
        go_wp2
        go_ret
        exact ⟨by rw [e2]; rfl, Ext.trans (Ext.alloc (Ext.refl _) _) hx⟩
  · have e1 : (t == 0) = false := by simp [ht]
    cases hc : (codeR i f == 0) with
    | false =>
      go_enter Try.func48, Try.ntmps48
      go_wp2_with fail
      refine (l2Code_read 2 _ _ _ _ _ rfl rfl).mono ?_
      rintro e w' ⟨rfl, hx⟩
      go_wp2
      go_ret
      exact ⟨rfl, Ext.trans (Ext.alloc (Ext.refl _) _) hx⟩
    | true =>
      go_enter Try.func48, Try.ntmps48
      go_wp2_with fail
      refine (l2Code_read 2 _ _ _ _ _ rfl rfl).mono ?_
      rintro e w' ⟨rfl, hx⟩
      have c1 := hx.cell (a := ⟨w.heap.size, 3, none⟩) (v := .int .i64 t) (by go_simp)
      go_wp2
      go_ret
      exact ⟨by rw [e1]; rfl, Ext.trans (Ext.alloc (Ext.refl _) _) hx⟩

set_option maxHeartbeats 1000000 in
theorem specGood_else (k i f t a : Int) (w : World) (h0 : (k == 0) = false) (h1 : (k == 1) = false) (h2 : (k == 2) = false) :
    Calls Try.prog 48 #[.agg #[.int .i64 k, .int .i64 i, .int .i64 f, .int .i64 t, .int .i64 a]] w (BoolExt false w) := by
  go_enter Try.func48, Try.ntmps48
  go_wp2
  go_ret
  exact ⟨rfl, by repeat (first | assumption | exact Ext.refl _ | apply Ext.drew | apply Ext.alloc)⟩

theorem specGood_any (k i f t a : Int) (w : World) :
    Calls Try.prog 48 #[.agg #[.int .i64 k, .int .i64 i, .int .i64 f, .int .i64 t, .int .i64 a]] w (BoolExt (goodB k i f t a) w) := by
  by_cases h0 : k = 0
  · subst h0; exact specGood_0 i f t a w
  · by_cases h1 : k = 1
    · subst h1; exact specGood_1 i f t a w
    · by_cases h2 : k = 2
      · subst h2; exact specGood_2 i f t a w
      · have g0 : (k == 0) = false := by simp [h0]
        have g1 : (k == 1) = false := by simp [h1]
        have g2 : (k == 2) = false := by simp [h2]
        rw [goodB_else i f t a g0 g1 g2]
        exact specGood_else k i f t a w g0 g1 g2

set_option maxHeartbeats 1000000 in
theorem implGood_0 (i f t a : Int) (w : World) :
    Calls Try.prog 50 #[.agg #[.int .i64 0, .int .i64 i, .int .i64 f, .int .i64 t, .int .i64 a]] w (BoolExt (zeroB i f t a) w) := by
  unfold zeroB
  go_enter Try.func50, Try.ntmps50
  go_wp2
  all_goals go_ret
  all_goals refine ⟨?_, by repeat (first | assumption | exact Ext.refl _ | apply Ext.drew | apply Ext.alloc)⟩
  all_goals first | rfl | simp [*]

set_option maxHeartbeats 1000000 in
theorem implGood_1 (i f t a : Int) (w : World) :
    Calls Try.prog 50 #[.agg #[.int .i64 1, .int .i64 i, .int .i64 f, .int .i64 t, .int .i64 a]] w (BoolExt (codeM i f t a == 0) w) := by
  go_enter Try.func50, Try.ntmps50
  go_wp2_with fail
  refine (faultOfCmd_move _ _ _ _ _).mono ?_
  rintro e w' ⟨rfl, hx⟩
  go_wp2
  go_ret
  exact ⟨rfl, Ext.trans (Ext.alloc (Ext.refl _) _) hx⟩

set_option maxHeartbeats 1000000 in
theorem implGood_2 (i f t a : Int) (w : World) :
    Calls Try.prog 50 #[.agg #[.int .i64 2, .int .i64 i, .int .i64 f, .int .i64 t, .int .i64 a]] w (BoolExt ((codeR i f == 0 && t == 0) && a == 0) w) := by
  by_cases ht : t = 0
  · by_cases ha : a = 0
    · subst ht; subst ha
      go_enter Try.func50, Try.ntmps50
      go_wp2_with fail
      refine (faultOfCmd_read 2 _ _ _ _ _ rfl rfl).mono ?_
      rintro e w' ⟨rfl, hx⟩
      go_wp2
      go_ret
      exact ⟨by simp, Ext.trans (Ext.alloc (Ext.refl _) _) hx⟩
    · have e2 : (a != 0) = true := by simp [ha]
      have e3 : (a == 0) = false := by simp [ha]
      subst ht
      go_enter Try.func50, Try.ntmps50
      go_wp2
      go_ret
      exact ⟨by simp [ha], by repeat (first | assumption | exact Ext.refl _ | apply Ext.drew | apply Ext.alloc)⟩
  · have e1 : (t != 0) = true := by simp [ht]
    go_enter Try.func50, Try.ntmps50
    go_wp2
    go_ret
    exact ⟨by simp [ht], by repeat (first | assumption | exact Ext.refl _ | apply Ext.drew | apply Ext.alloc)⟩

set_option maxHeartbeats 1000000 in
theorem implGood_else (k i f t a : Int) (w : World) (h0 : (k == 0) = false) (h1 : (k == 1) = false) (h2 : (k == 2) = false) :
    Calls Try.prog 50 #[.agg #[.int .i64 k, .int .i64 i, .int .i64 f, .int .i64 t, .int .i64 a]] w (BoolExt false w) := by
  go_enter Try.func50, Try.ntmps50
  go_wp2
  go_ret
  exact ⟨rfl, by repeat (first | assumption | exact Ext.refl _ | apply Ext.drew | apply Ext.alloc)⟩

theorem implGood_any (k i f t a : Int) (w : World) :
    Calls Try.prog 50 #[.agg #[.int .i64 k, .int .i64 i, .int .i64 f, .int .i64 t, .int .i64 a]] w (BoolExt (goodB k i f t a) w) := by
  by_cases h0 : k = 0
  · subst h0; exact implGood_0 i f t a w
  · by_cases h1 : k = 1
    · subst h1; exact implGood_1 i f t a w
    · by_cases h2 : k = 2
      · subst h2; exact implGood_2 i f t a w
      · have g0 : (k == 0) = false := by simp [h0]
        have g1 : (k == 1) = false := by simp [h1]
        have g2 : (k == 2) = false := by simp [h2]
        rw [goodB_else i f t a g0 g1 g2]
        exact implGood_else k i f t a w g0 g1 g2

end Go.Proofs.Ytfffddhfagibpaa

namespace Go.Proofs.Ytfffddhfagibpaa
open Go.RowKit
set_option linter.unusedVariables false

theorem acct_nat {f : Int} (h : acctB f = true) : ∃ F : Nat, f = (F : Int) ∧ F < 4 := by
  have := acctB_yes h
  exact ⟨f.toNat, by omega, by omega⟩
theorem good_1 {i f t a : Int} (h : goodB 1 i f t a = true) : ∃ F T : Nat, f = (F : Int) ∧ t = (T : Int) ∧ F < 4 ∧ T < 4 ∧ F ≠ T ∧ 1 ≤ a ∧ a ≤ 1000 := by
  rw [goodB_1] at h
  unfold codeM at h
  cases h1 : acctB f with
  | false => rw [h1] at h; simp at h
  | true =>
    cases h2 : acctB t with
    | false => rw [h1, h2] at h; simp at h
    | true =>
      obtain ⟨F, rfl, hF⟩ := acct_nat h1
      obtain ⟨T, rfl, hT⟩ := acct_nat h2
      rw [h1, h2] at h
      cases h3 : ((F : Int) == (T : Int)) with
      | true => rw [h3] at h; simp at h
      | false =>
        rw [h3] at h
        cases h4 : inB i 1 999 with
        | false => rw [h4] at h; simp at h
        | true =>
          rw [h4] at h
          cases h5 : inB a 1 1000 with
          | false => rw [h5] at h; simp at h
          | true =>
            have h6 : F ≠ T := by intro e; subst e; simp at h3
            have h7 : 1 ≤ a ∧ a ≤ 1000 := by simpa [inB] using h5
            exact ⟨F, T, rfl, rfl, hF, hT, h6, h7.1, h7.2⟩
theorem good_2 {i f t a : Int} (h : goodB 2 i f t a = true) : ∃ F : Nat, f = (F : Int) ∧ F < 4 := by
  rw [goodB_2] at h
  unfold codeR at h
  cases h1 : acctB f with
  | false => rw [h1] at h; simp at h
  | true => exact acct_nat h1
theorem good_kind {k i f t a : Int} (h : goodB k i f t a = true) : k = 0 ∨ k = 1 ∨ k = 2 := by
  by_cases h0 : k = 0
  · exact .inl h0
  · by_cases h1 : k = 1
    · exact .inr (.inl h1)
    · by_cases h2 : k = 2
      · exact .inr (.inr h2)
      · rw [goodB_else i f t a (by simp [h0]) (by simp [h1]) (by simp [h2])] at h
        cases h
theorem four_of {l : List Int} (h : l.length = 4) : ∃ p q r s, l = [p, q, r, s] := by
  match l, h with
  | [p, q, r, s], _ => exact ⟨p, q, r, s, rfl⟩
theorem goodS_4 {p q r s : Int} : goodS [p, q, r, s] = true ↔ (0 ≤ p ∧ p ≤ 400) ∧ (0 ≤ q ∧ q ≤ 400) ∧ (0 ≤ r ∧ r ≤ 400) ∧ (0 ≤ s ∧ s ≤ 400) ∧ p + (q + (r + s)) = 400 := by
  simp [goodS, allIn, inB, and_assoc]
theorem good_didL {k i f t a : Int} {l : List Int} (hg : goodS l = true) (hc : goodB k i f t a = true) : goodS (didL k f t a l) = true := by
  obtain ⟨p, q, r, s, rfl⟩ := four_of (goodS_get hg).1
  rcases good_kind hc with rfl | rfl | rfl
  · exact hg
  · obtain ⟨F, T, rfl, rfl, hF, hT, hne, ha, _⟩ := good_1 hc
    rw [goodS_4] at hg
    unfold didL
    rw [if_pos rfl]
    have e1 : ((F : Int)).toNat = F := rfl
    have e2 : ((T : Int)).toNat = T := rfl
    rw [e1, e2]
    split
    · rw [goodS_4]; exact hg
    · rename_i h
      match F, hF, T, hT, hne with
      | 0, _, 0, _, hne => exact absurd rfl hne
      | 0, _, 1, _, _ => simp at h; simp [goodS_4]; omega
      | 0, _, 2, _, _ => simp at h; simp [goodS_4]; omega
      | 0, _, 3, _, _ => simp at h; simp [goodS_4]; omega
      | 1, _, 0, _, _ => simp at h; simp [goodS_4]; omega
      | 1, _, 1, _, hne => exact absurd rfl hne
      | 1, _, 2, _, _ => simp at h; simp [goodS_4]; omega
      | 1, _, 3, _, _ => simp at h; simp [goodS_4]; omega
      | 2, _, 0, _, _ => simp at h; simp [goodS_4]; omega
      | 2, _, 1, _, _ => simp at h; simp [goodS_4]; omega
      | 2, _, 2, _, hne => exact absurd rfl hne
      | 2, _, 3, _, _ => simp at h; simp [goodS_4]; omega
      | 3, _, 0, _, _ => simp at h; simp [goodS_4]; omega
      | 3, _, 1, _, _ => simp at h; simp [goodS_4]; omega
      | 3, _, 2, _, _ => simp at h; simp [goodS_4]; omega
      | 3, _, 3, _, hne => exact absurd rfl hne
  · exact hg
theorem goodS_at {l : List Int} {F : Nat} (hg : goodS l = true) (hF : F < 4) : ∃ x, l[F]? = some x ∧ 0 ≤ x ∧ x ≤ 400 := by
  obtain ⟨h4, ha, _⟩ := goodS_get hg
  have hl : F < l.length := by omega
  have h := (List.all_eq_true.1 ha) l[F] (List.getElem_mem hl)
  exact ⟨l[F], List.getElem?_eq_getElem hl, by simpa [inB] using h⟩

theorem did_1 {B : Nat} {u : Value} {l : List Int} {i f t a : Int} {w : World} (hg : goodS l = true) (hc : goodB 1 i f t a = true) (hf : Fresh B w u l) :
    Calls Try.prog 134 #[.agg #[.int .i64 f, .int .i64 t, .int .i64 a], u] w (DidTo B u (didL 1 f t a l) (didC 1 f a l) (didS 1 f l) w) := by
  obtain ⟨F, T, rfl, rfl, hF, hT, hne, ha, ha1⟩ := good_1 hc
  obtain ⟨x, hx, hx0, hx1⟩ := goodS_at hg hF
  obtain ⟨y, hy, hy0, hy1⟩ := goodS_at hg hT
  have e1 : l[((F : Int)).toNat]? = some x := hx
  have e2 : l[((T : Int)).toNat]? = some y := hy
  have k1 : (1 : Int) = 1 ↔ True := by decide
  have k2 : (1 : Int) = 2 ↔ False := by decide
  simp only [didL, didC, didS, e1, e2, Option.getD_some, k1, k2, if_true, if_false]
  by_cases h : x < a
  · rw [if_pos h, if_pos h]
    exact transfer_poor B u l F T a x w hf (goodS_get hg).1 hF hx h
  · rw [if_neg h, if_neg h]
    exact transfer_done B u l F T a x y w hf (goodS_get hg).1 hne hF hT hx hy (by omega) ha ha1 hx1 hy0 hy1
theorem did_2 {B : Nat} {u : Value} {l : List Int} {i f t a : Int} {w : World} (hg : goodS l = true) (hc : goodB 2 i f t a = true) (hf : Fresh B w u l) :
    Calls Try.prog 135 #[.agg #[.int .i64 f], u] w (DidTo B u (didL 2 f t a l) (didC 2 f a l) (didS 2 f l) w) := by
  obtain ⟨F, rfl, hF⟩ := good_2 hc
  obtain ⟨x, hx, hx0, hx1⟩ := goodS_at hg hF
  have e1 : l[((F : Int)).toNat]? = some x := hx
  have k1 : (2 : Int) = 1 ↔ False := by decide
  have k2 : (2 : Int) = 2 ↔ True := by decide
  simp only [didL, didC, didS, e1, Option.getD_some, k1, k2, if_true, if_false]
  exact inquiry_any B u l F x w hf (goodS_get hg).1 hF hx
theorem did_0 {B : Nat} {u : Value} {l : List Int} {f t a : Int} {w : World} (hf : Fresh B w u l) :
    Calls Try.prog 136 #[.agg #[], u] w (DidTo B u (didL 0 f t a l) (didC 0 f a l) (didS 0 f l) w) := by
  exact idleness_any B u l w hf

/-- Sums in new memory, what is told, and a Bool come back. -/
def Applied (L : List Int) (c s : Int) (b : Bool) (w : World) (e : Ending) (w' : World) : Prop :=
  ∃ v, e = .returned (.tuple #[v, .agg #[.int .i64 c, .int .i64 s], .bool b]) ∧ Fresh w.heap.size w' v L ∧ Ext w w'

end Go.Proofs.Ytfffddhfagibpaa

namespace Go.Proofs.Ytfffddhfagibpaa
open Go.RowKit

set_option maxHeartbeats 400000 in
theorem eqIntS_any (u v : Value) (l r : List Int) (w : World) (hu : Ints w u l) (hv : Ints w v r) :
    Calls Try.prog 13 #[u, v] w (BoolExt (decide (l = r)) w) := by
  obtain ⟨au, cu, rfl, hlu, _, hcu⟩ := hu
  obtain ⟨av, cv, rfl, hlv, _, hcv⟩ := hv
  unfold maxLen at hlu hlv
  by_cases hl : l.length = r.length
  · have e0 : ((l.length : Int) != (r.length : Int)) = false := by simp [hl]
    have HL := Lib.hid hl
    clear hl
    go_enter Try.func13, Try.ntmps13
    go_wp2
    go_loopw [5] (fun i wr => ∃ k : Nat, k ≤ l.length ∧ i = .int .i64 k ∧ l.take k = r.take k ∧ ∃ nq, wr = w.drewN nq) (fun i _ => l.length - (intOf i).toNat)
    case atStart => exact ⟨0, Nat.zero_le _, rfl, rfl, 0, rfl⟩
    case round =>
      obtain ⟨k, hk, rfl, ht, nq0, rfl⟩ := hrel
      have HT := Lib.hid ht
      clear ht
      by_cases hlt : k < l.length
      · have hltr : k < r.length := by have := HL.out; omega
        obtain ⟨bu, ou, rfl, du⟩ := hcu (by omega)
        obtain ⟨bv, ov, rfl, dv⟩ := hcv (by omega)
        have gu := du k hlt
        have gv := dv k hltr
        clear hcu hcv du dv
        go_wp2_with fail
        go_quiet (fail)
        by_cases he : l[k] = r[k]
        · have e1 : (l[k] != r[k]) = false := by simp [he]
          have HE := Lib.hid he
          clear he
          go_wp2
          go_roundw
          case rel => exact ⟨k + 1, by omega, by go_num, take_eq_succ hlt hltr HT.out (by simpa [hlt, hltr] using HE.out), _, rfl⟩
          case measure => simp [intOf]; omega
        · have e1 : (l[k] != r[k]) = true := by simp [he]
          have HE := Lib.hid he
          clear he
          go_wp2
          go_ret
          refine ⟨?_, by repeat (first | exact Ext.refl _ | apply Ext.drewN)⟩
          have hne : decide (l = r) = false := decide_eq_false (fun h => HE.out (by subst h; rfl))
          rw [hne]; rfl
      · have hk' : k = l.length := by omega
        subst hk'
        go_wp2
        go_ret
        refine ⟨?_, by repeat (first | exact Ext.refl _ | apply Ext.drewN)⟩
        have he : decide (l = r) = true := by
          have h := HT.out
          rw [List.take_length, HL.out, List.take_length] at h
          exact decide_eq_true h
        rw [he]; rfl
  · have e0 : ((l.length : Int) != (r.length : Int)) = true := by simp; omega
    have HL := Lib.hid hl
    clear hl
    go_enter Try.func13, Try.ntmps13
    go_wp2
    go_ret
    refine ⟨?_, Ext.refl w⟩
    have hne : decide (l = r) = false := decide_eq_false (fun h => HL.out (by rw [h]))
    rw [hne]; rfl

/-- After k rounds of the copy: the first k cells are those of l, the others 0. -/
def half (l : List Int) (k : Nat) : List Int := l.take k ++ List.replicate (l.length - k) 0
theorem half_length (l : List Int) (k : Nat) (h : k ≤ l.length) : (half l k).length = l.length := by simp [half]; omega
theorem half_zero (l : List Int) : half l 0 = List.replicate l.length 0 := by simp [half]
theorem half_all (l : List Int) : half l l.length = l := by simp [half]
theorem half_succ (l : List Int) (k : Nat) (h : k < l.length) : (half l k).set k l[k] = half l (k + 1) := by
  unfold half
  rw [List.set_append_right _ _ (by simp; omega)]
  have e1 : k - (l.take k).length = 0 := by simp; omega
  rw [e1, List.take_add_one, List.getElem?_eq_getElem h]
  have e2 : l.length - k = (l.length - (k + 1)) + 1 := by omega
  rw [e2, List.replicate_succ, List.set_cons_zero]
  simp only [Option.toList, List.append_assoc, List.cons_append, List.nil_append]

set_option maxHeartbeats 400000 in
theorem toIntS_any (u : Value) (l : List Int) (w : World) (hu : Ints w u l) (hs : l.length ≤ 35184372088831) :
    Calls Try.prog 11 #[u] w (NewInts l w) := by
  obtain ⟨au, cu, rfl, hlu, _, hcu⟩ := hu
  unfold maxLen at hlu
  obtain ⟨i0, hi, hz0, hz1, hz2⟩ := info_parts Try.infoInt
  have HI2 := Lib.hid hz2
  go_enter Try.func11, Try.ntmps11
  go_wp2_with (at_make; refine wpList_make_full _ rfl _ _ 22 rfl w.heap.size 3 i0 (.int .i64 0) 1 Try.underlying22 hi hz0 hz1 _ _ _ _ l.length rfl rfl rfl rfl ?c1 ?c2 ?c3 ?_)
  case c1 => rw [hz2]; omega
  case c2 => unfold maxLen; omega
  case c3 => simp
  intro w1 ho1 hg1
  have hx1 : Ext w w1 := ext_of_grown hg1
  have ho : w1.ownsRow w.heap.size 3 1 (.slice (some ⟨w.heap.size, 0, none⟩) l.length l.length) l.length ((half l 0).map (Value.int .i64)) := by
    rw [toList_madeCells_one] at ho1
    rw [half_zero, List.map_replicate]; exact ho1
  clear ho1 hg1 hz0 hz1 hz2 hi HI2
  go_wp2
  go_loopw [4] (fun i wr => ∃ k : Nat, k ≤ l.length ∧ i = .int .i64 k ∧ wr.ownsRow w.heap.size 3 1 (.slice (some ⟨w.heap.size, 0, none⟩) l.length l.length) l.length ((half l k).map (Value.int .i64)) ∧ Ext w wr) (fun i _ => l.length - (intOf i).toNat)
  case atStart => exact ⟨0, Nat.zero_le _, rfl, ho, hx1⟩
  case round =>
    clear ho hx1
    obtain ⟨k, hk, rfl, ho, hx⟩ := hrel
    by_cases hlt : k < l.length
    · obtain ⟨bu, ou, rfl, du⟩ := hcu (by omega)
      have gu := hx.cell (du k hlt)
      have go := (ho.cellAt k (by omega)).trans (show _ = some (Value.int .i64 ((half l k)[k]?.getD 0)) by
        have hh := half_length l k hk
        simp [List.getElem?_eq_getElem (show k < (half l k).length by omega)])
      have gf := ho.frozenAt k
      have hne : w.heap.size ≠ bu := by
        have := World.block_lt_of_cell? w _ (du k hlt)
        simp only at this; omega
      clear hcu du
      go_wp2
      have hs1 := (ho.stored k (Value.int .i64 l[k])).1
      rw [← List.map_set, half_succ l k hlt] at hs1
      go_roundw
      case rel => exact ⟨k + 1, by omega, by go_num, hs1, Below.setCell hx (Nat.le_refl _) _⟩
      case measure => simp [intOf]; omega
    · obtain rfl : k = l.length := by omega
      go_wp2
      go_ret
      rw [half_all] at ho
      exact ⟨_, rfl, ho, hx⟩

/-- The marks k, k + 1, .. -/
def marks (k : Int) (n : Nat) : List Int := (List.range n).map fun (j : Nat) => k + (j : Int)
theorem marks_length (k : Int) (n : Nat) : (marks k n).length = n := by simp [marks]
theorem marks_get (k : Int) (n j : Nat) (h : j < n) : (marks k n)[j]? = some (k + (j : Int)) := by simp [marks, h]

/-- After j marks: the first j cells are marks, the others as they were. -/
def marked (k : Int) (l : List Int) (j : Nat) : List Int := marks k j ++ l.drop j
theorem marked_length (k : Int) (l : List Int) (j : Nat) (h : j ≤ l.length) : (marked k l j).length = l.length := by simp [marked, marks_length]; omega
theorem marked_succ (k : Int) (l : List Int) (j : Nat) (h : j < l.length) : (marked k l j).set j (k + (j : Int)) = marked k l (j + 1) := by
  unfold marked
  rw [List.set_append_right _ _ (by rw [marks_length]; omega), marks_length, Nat.sub_self]
  rw [List.drop_eq_getElem_cons h, List.set_cons_zero]
  simp [marks, List.range_succ]
theorem marked_all (k : Int) (l : List Int) : marked k l l.length = marks k l.length := by simp [marked]
theorem marked_zero (k : Int) (l : List Int) : marked k l 0 = l := by simp [marked, marks]

/-- Only the block of v has turned, and there may be new ones. -/
def Touched (v : Value) (w w' : World) : Prop := w.grownBy w' v.ownBlock

/-- v now bears the marks, the number behind the last comes back. -/
def Marks (B : Nat) (k : Int) (v : Value) (l : List Int) (w : World) (e : Ending) (w' : World) : Prop :=
  e = .returned (.int .i64 (k + l.length)) ∧ Fresh B w' v (marks k l.length) ∧ Touched v w w'

set_option maxHeartbeats 400000 in
theorem markIntS_any (B : Nat) (v : Value) (l : List Int) (k : Int) (w : World) (hv : Fresh B w v l) (h0 : 0 ≤ k) (h1 : k + l.length ≤ 4611686018427387904) :
    Calls Try.prog 16 #[v, .int .i64 k] w (Marks B k v l w) := by
  have hlen : l.length ≤ 4611686018427387904 := by omega
  rcases hv.2 with ⟨rfl, hn⟩ | ⟨g, cap, cur, rfl, hb, hg, hnc, hcm, hcs, htake⟩
  · obtain rfl : l = [] := List.eq_nil_of_length_eq_zero hn
    go_enter Try.func16, Try.ntmps16
    go_wp2
    refine wp_loop_rounds 1 ?_; rw [rounds_succ]
    go_wp2
    go_ret
    exact ⟨by simp, by simpa [marks] using hv, World.grownBy.refl _ _⟩
  · clear hg hnc hcm hcs htake cur hb
    go_enter Try.func16, Try.ntmps16
    go_wp2
    go_loopw [1, 5] (fun m i wr => ∃ j : Nat, j ≤ l.length ∧ i = .int .i64 j ∧ m = .int .i64 (k + j) ∧ wr.ownsRow B 3 1 (.slice (some ⟨g, 0, none⟩) l.length cap) l.length ((marked k l j).map (Value.int .i64)) ∧ w.grownBy wr (some g)) (fun _ i _ => l.length - (intOf i).toNat)
    case atStart => exact ⟨0, Nat.zero_le _, rfl, by simp, by rw [marked_zero]; exact hv, World.grownBy.refl _ _⟩
    case round =>
      clear hv
      obtain ⟨j, hj, rfl, rfl, ho, hx⟩ := hrel
      by_cases hlt : j < l.length
      · have hml := marked_length k l j hj
        have go := (ho.cellAt j (by omega)).trans (show _ = some (Value.int .i64 ((marked k l j)[j]?.getD 0)) by
          simp [List.getElem?_eq_getElem (show j < (marked k l j).length by omega)])
        have gf := ho.frozenAt j
        clear hml
        go_wp2
        have hs := ho.stored j (Value.int .i64 (k + j))
        have hs1 := hs.1
        rw [← List.map_set, marked_succ k l j hlt] at hs1
        have hs2 := hs.2
        go_roundw
        case rel => exact ⟨j + 1, by omega, by go_num, by go_num, hs1, hx.trans hs2⟩
        case measure => simp [intOf]; omega
      · obtain rfl : j = l.length := by omega
        go_wp2
        go_ret
        rw [marked_all] at ho
        refine ⟨rfl, ?_, hx⟩
        unfold Fresh
        rw [marks_length]
        exact ho

set_option maxHeartbeats 400000 in
/-- Where the marks lie, they are met. -/
theorem heldIntS_yes (v : Value) (n : Nat) (k : Int) (w : World) (hv : Ints w v (marks k n)) (h0 : 0 ≤ k) (h1 : k + n ≤ 4611686018427387904) :
    Calls Try.prog 17 #[v, .int .i64 k] w (IntExt (k + n) w) := by
  obtain ⟨av, cv, rfl, hlv, _, hcv⟩ := hv
  rw [marks_length] at hcv ⊢
  have hlen : n ≤ 4611686018427387904 := by omega
  clear hlv
  go_enter Try.func17, Try.ntmps17
  go_wp2
  go_loopw [1, 5] (fun m i wr => ∃ j : Nat, j ≤ n ∧ i = .int .i64 j ∧ m = .int .i64 (k + j) ∧ Ext w wr) (fun _ i _ => n - (intOf i).toNat)
  case atStart => exact ⟨0, Nat.zero_le _, rfl, by simp, Ext.refl _⟩
  case round =>
    obtain ⟨j, hj, rfl, rfl, hx⟩ := hrel
    by_cases hlt : j < n
    · obtain ⟨bv, ov, rfl, dv⟩ := hcv (by omega)
      have gv := hx.cell (dv j hlt)
      rw [marks_get k n j hlt] at gv
      clear hcv dv
      go_wp2
      go_roundw
      case rel => exact ⟨j + 1, by omega, by go_num, by go_num, hx⟩
      case measure => simp [intOf]; omega
    · obtain rfl : j = n := by omega
      go_wp2
      go_ret
      exact ⟨rfl, hx⟩

end Go.Proofs.Ytfffddhfagibpaa

namespace Go.Proofs.Ytfffddhfagibpaa
open Go.RowKit

/-- What is left, -1 where there is not enough. -/
def lessened (left : Int) (n : Nat) : Int := if left < n then -1 else left - n
theorem lessened_no {left : Int} {n : Nat} (h : left < n) : lessened left n = -1 := by unfold lessened; rw [if_pos h]
theorem lessened_yes {left : Int} {n : Nat} (h : (n : Int) ≤ left) : lessened left n = left - n := by unfold lessened; rw [if_neg (by omega)]

set_option maxHeartbeats 400000 in
theorem szIntS_any (v : Value) (l : List Int) (left : Int) (w : World) (hv : Ints w v l) (h0 : 0 ≤ left) (h1 : left ≤ 1099511627776) :
    Calls Try.prog 85 #[v, .int .i64 left] w fun e w' => e = .returned (.int .i64 (lessened left l.length)) ∧ w = w' := by
  obtain ⟨av, cv, rfl, hlv, _, hcv⟩ := hv
  unfold maxLen at hlv
  by_cases hlt : left < l.length
  · rw [lessened_no hlt]
    go_enter Try.func85, Try.ntmps85
    go_wp2
    go_ret
    exact ⟨rfl, rfl⟩
  · rw [lessened_yes (by omega)]
    go_enter Try.func85, Try.ntmps85
    go_wp2
    go_ret
    exact ⟨rfl, rfl⟩

end Go.Proofs.Ytfffddhfagibpaa

namespace Go.Proofs.Ytfffddhfagibpaa
open Go.RowKit
set_option linter.unusedVariables false

/-- An attribute lies in the block b. -/
def AttrAt (w : World) (b : Nat) (s : Int) (u : Value) : Prop :=
  w.cell? ⟨b, 0, none⟩ = some (.int .i64 s) ∧ w.cell? ⟨b, 1, none⟩ = some u
theorem AttrAt.ext {w w' : World} {b : Nat} {s : Int} {u : Value} (h : AttrAt w b s u) (e : Ext w w') : AttrAt w' b s u := ⟨e.cell h.1, e.cell h.2⟩
theorem attrAt_new (w : World) (T : TypeId) (s : Int) (u : Value) : AttrAt (w.alloc (.cells #[.int .i64 s, u] T)) w.heap.size s u := by
  refine ⟨?_, ?_⟩ <;> go_simp
theorem attrAt_new2 (w : World) (o : Obj) (T : TypeId) (s : Int) (u : Value) : AttrAt ((w.alloc o).alloc (.cells #[.int .i64 s, u] T)) (w.heap.size + 1) s u := by
  refine ⟨?_, ?_⟩ <;> go_simp
/-- An attribute lies in the block b, and may be written. -/
def OpenAt (w : World) (b : Nat) (s : Int) (u : Value) : Prop := AttrAt w b s u ∧ w.frozen? ⟨b, 0, none⟩ = false ∧ w.frozen? ⟨b, 1, none⟩ = false
theorem Ext.frozen {w w' : World} (h : Ext w w') {a : Addr} {b : Bool} (hl : a.block < w.heap.size) (hc : w.frozen? a = b) : w'.frozen? a = b := (Below.frozen h hl).trans hc
theorem OpenAt.ext {w w' : World} {b : Nat} {s : Int} {u : Value} (h : OpenAt w b s u) (e : Ext w w') : OpenAt w' b s u := by
  have hl : b < w.heap.size := World.block_lt_of_cell? w _ h.1.1
  exact ⟨h.1.ext e, e.frozen hl h.2.1, e.frozen hl h.2.2⟩
theorem openAt_new (w : World) (T : TypeId) (s : Int) (u : Value) : OpenAt (w.alloc (.cells #[.int .i64 s, u] T)) w.heap.size s u := by
  refine ⟨attrAt_new w T s u, ?_, ?_⟩ <;> go_simp
theorem Ext.setc {w w' : World} {a : Addr} {v : Value} (h : Ext w w') (hb : w.heap.size ≤ a.block) : Ext w (w'.setCell a v) := Below.setCell h hb v

/-- An attribute in new memory comes back. -/
def NewAttr (s : Int) (l : List Int) (w : World) (e : Ending) (w' : World) : Prop := ∃ u, e = .returned (.agg #[.int .i64 s, u]) ∧ Fresh w.heap.size w' u l ∧ Ext w w'
/-- An attribute in new memory and a Bool come back. -/
def TwoAttr (s : Int) (l : List Int) (b : Bool) (w : World) (e : Ending) (w' : World) : Prop := ∃ u, e = .returned (.tuple #[.agg #[.int .i64 s, u], .bool b]) ∧ Fresh w.heap.size w' u l ∧ Ext w w'

set_option maxHeartbeats 1000000 in
theorem szAttr_any (s : Int) (u : Value) (l : List Int) (left : Int) (w : World) (hv : Ints w u l) (h0 : 0 ≤ left) (h1 : left ≤ 1099511627776) :
    Calls Try.prog 64 #[.agg #[.int .i64 s, u], .int .i64 left] w (IntExt (lessened left l.length) w) := by
  have hb := attrAt_new w 60 s u
  by_cases hlt : left < l.length
  · have L := Lib.hid (lessened_no hlt)
    clear hlt
    go_enter Try.func64, Try.ntmps64
    go_wp2_with fail
    refine (szIntS_any _ _ _ _ (hv.ext (Ext.alloc (Ext.refl _) _)) h0 h1).mono ?_
    rintro e w1 ⟨rfl, rfl⟩
    rw [L.out]
    go_wp2
    go_ret
    exact ⟨by rw [L.out]; rfl, Ext.alloc (Ext.refl _) _⟩
  · have L := Lib.hid (lessened_yes (left := left) (n := l.length) (by omega))
    obtain ⟨r, hr⟩ : ∃ r, r = left - (l.length : Int) := ⟨_, rfl⟩
    have hr0 : 0 ≤ r := by omega
    have LR : Hid (lessened left l.length = r) := Lib.hid (by rw [L.out, hr])
    clear hlt L hr
    rw [LR.out]
    go_enter Try.func64, Try.ntmps64
    go_wp2_with fail
    refine (szIntS_any _ _ _ _ (hv.ext (Ext.alloc (Ext.refl _) _)) h0 h1).mono ?_
    rintro e w1 ⟨rfl, rfl⟩
    rw [LR.out]
    go_wp2
    go_ret
    exact ⟨rfl, Ext.alloc (Ext.refl _) _⟩

theorem Ext.alloc3 (w : World) (a b c : Obj) : Ext w (((w.alloc a).alloc b).alloc c) := (((Ext.refl w).alloc a).alloc b).alloc c
theorem grownBy_set (W : World) (b o : Nat) (v : Value) : W.grownBy (W.setCell ⟨b, o, none⟩ v) (some b) :=
  ⟨rfl, rfl, rfl, (Below.setCell (Below.refl 0 W) (Nat.zero_le _) v).size, fun k _ hne => Below.heap_setCell _ _ _ k (fun e => hne (by rw [e]))⟩
theorem Fresh.set {B : Nat} {w : World} {v : Value} {l : List Int} (h : Fresh B w v l) (b o : Nat) (x : Value) (hb : b < B) : Fresh B (w.setCell ⟨b, o, none⟩ x) v l := by
  refine World.ownsRow.kept h (grownBy_set w b o x) ?_
  cases hv : v.ownBlock with
  | none => exact .inl rfl
  | some g =>
    refine .inr fun e => ?_
    have := (World.ownsRow.lt h g hv).1
    simp at e; omega
theorem Fresh.form {B : Nat} {w : World} {v : Value} {l : List Int} (h : Fresh B w v l) : ∃ ao cap, v = .slice ao l.length cap := by
  obtain ⟨ao, cap, hv, _⟩ := h.ints
  exact ⟨ao, cap, hv⟩
theorem open_three (w : World) (a : Obj) (T T' : TypeId) (s s' : Int) (u u' : Value) :
    OpenAt (((w.alloc a).alloc (.cells #[.int .i64 s, u] T)).alloc (.cells #[.int .i64 s', u'] T')) (w.heap.size + 1) s u ∧ OpenAt (((w.alloc a).alloc (.cells #[.int .i64 s, u] T)).alloc (.cells #[.int .i64 s', u'] T')) (w.heap.size + 1 + 1) s' u' := by
  refine ⟨⟨⟨?_, ?_⟩, ?_, ?_⟩, ⟨⟨?_, ?_⟩, ?_, ?_⟩⟩ <;> go_simp
theorem size3 (w : World) (a b c : Obj) : (((w.alloc a).alloc b).alloc c).heap.size = w.heap.size + 3 := by simp

set_option maxHeartbeats 1000000 in
theorem toAttr_any (s : Int) (u : Value) (l : List Int) (w : World) (hv : Ints w u l) (hs : l.length ≤ 35184372088831) :
    Calls Try.prog 69 #[.agg #[.int .i64 s, u]] w (NewAttr s l w) := by
  have HS := Lib.hid hs
  have HO := Lib.hid (open_three w (.cells #[.int .i64 s, u] 60) 71 71 0 s (.slice none 0 0) (.slice none 0 0))
  clear hs
  go_enter Try.func69, Try.ntmps69
  go_wp2_with fail
  refine (toIntS_any _ _ _ (hv.ext (Ext.alloc3 _ _ _ _)) HS.out).mono ?_
  rintro e w1 ⟨v, rfl, f1, x1⟩
  obtain ⟨⟨c0, c1⟩, z0, z1⟩ := HO.out.1.ext x1
  obtain ⟨⟨d0, d1⟩, y0, y1⟩ := HO.out.2.ext x1
  have hx : Ext w w1 := (Ext.alloc3 _ _ _ _).trans x1
  rw [size3] at f1
  obtain ⟨av, cv, rfl⟩ := f1.form
  have F := Lib.hid f1
  clear f1 x1 hv
  go_wp2
  refine bodyPost_ret (v := .agg #[.int .i64 s, .slice av l.length cv]) (by simp [results, Try.results69, go_sem, c0, c1]) rfl ⟨_, rfl, ?_, ?_⟩
  · exact (((F.out.set _ _ _ (by omega)).set _ _ _ (by omega)).set _ _ _ (by omega)).more (by omega)
  · exact ((hx.setc (by dsimp only; omega)).setc (by dsimp only; omega)).setc (by dsimp only; omega)

set_option maxHeartbeats 1000000 in
/-- Two attributes that are the same are found to be so. -/
theorem eqAttr_same (s : Int) (u v : Value) (l : List Int) (w : World) (hu : Ints w u l) (hv : Ints w v l) :
    Calls Try.prog 76 #[.agg #[.int .i64 s, u], .agg #[.int .i64 s, v]] w (BoolExt true w) := by
  have hx : Ext w ((w.alloc (.cells #[.int .i64 s, u] 71)).alloc (.cells #[.int .i64 s, v] 71)) := ((Ext.refl w).alloc _).alloc _
  have e0 : ((s : Int) != s) = false := by simp
  go_enter Try.func76, Try.ntmps76
  go_wp2_with fail
  refine (eqIntS_any _ _ _ _ _ (hu.ext hx) (hv.ext hx)).mono ?_
  rintro e w1 ⟨rfl, x1⟩
  rw [decide_eq_true rfl]
  have hy := hx.trans x1
  clear hx x1
  go_wp2
  go_ret
  exact ⟨rfl, hy⟩

/-- The marks lie there; nothing below B has turned. -/
def MarkedA (B : Nat) (k : Int) (v : Value) (l : List Int) (w : World) (e : Ending) (w' : World) : Prop :=
  e = .returned (.int .i64 (k + l.length)) ∧ Fresh B w' v (marks k l.length) ∧ w.grownBy w' v.ownBlock

set_option maxHeartbeats 1000000 in
theorem markAttr_any (B : Nat) (s : Int) (u : Value) (l : List Int) (k : Int) (w : World) (hv : Fresh B w u l) (h0 : 0 ≤ k) (h1 : k + l.length ≤ 4611686018427387904) :
    Calls Try.prog 78 #[.agg #[.int .i64 s, u], .int .i64 k] w (MarkedA B k u l w) := by
  have H1 := Lib.hid h1
  clear h1
  go_enter Try.func78, Try.ntmps78
  go_wp2_with fail
  refine (markIntS_any B _ l _ _ (hv.ext (Ext.alloc (Ext.refl _) _)) h0 H1.out).mono ?_
  rintro e w1 ⟨rfl, f1, t1⟩
  have T := Lib.hid t1
  have F := Lib.hid f1
  clear t1 f1 hv
  go_wp2
  go_ret
  exact ⟨rfl, F.out, (World.grownBy_alloc _ _ _).trans T.out⟩

/-- What lies in another block than v's is not turned by the marks. -/
theorem cell_marked {B b o : Nat} {w1 w w' : World} {v x : Value} {l : List Int} (f : Fresh B w1 v l) (t : w.grownBy w' v.ownBlock) (hc : w.cell? ⟨b, o, none⟩ = some x) (hb : b < B ∨ w1.heap.size ≤ b) : w'.cell? ⟨b, o, none⟩ = some x := by
  refine World.grownBy.cell t hc (fun e => ?_)
  have h := World.ownsRow.lt f b e.symm
  omega
theorem keep2 {wb W W' : World} {a b : Addr} {u v : Value} (x : Ext W W') (h : Ext wb W ∧ W.cell? a = some u ∧ W.cell? b = some v) : Ext wb W' ∧ W'.cell? a = some u ∧ W'.cell? b = some v :=
  ⟨h.1.trans x, x.cell h.2.1, x.cell h.2.2⟩
theorem keep4 {wb W W' : World} {a b c d : Addr} {u v r s : Value} (x : Ext W W') (h : Ext wb W ∧ W.cell? a = some u ∧ W.cell? b = some v ∧ W.cell? c = some r ∧ W.cell? d = some s) : Ext wb W' ∧ W'.cell? a = some u ∧ W'.cell? b = some v ∧ W'.cell? c = some r ∧ W'.cell? d = some s :=
  ⟨h.1.trans x, x.cell h.2.1, x.cell h.2.2.1, x.cell h.2.2.2.1, x.cell h.2.2.2.2⟩

end Go.Proofs.Ytfffddhfagibpaa
