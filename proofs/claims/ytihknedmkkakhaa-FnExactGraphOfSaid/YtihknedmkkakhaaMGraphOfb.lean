/- Texts of this proof, part b: words, plain facts, contracts. -/
import Derived.Test.YtihknedmkkakhaaMGraphOfa
import Derived.Laws.CopyOwn
import Derived.Laws.AppendOwnNone
import Derived.Laws.OwnMore

namespace Go.Proofs.Ytihknedmkkakhaa
open Go.RowKit

def acctB (n : Int) : Bool := inB n 0 3
theorem acctB_yes {n : Int} (h : acctB n = true) : 0 ≤ n ∧ n ≤ 3 := by unfold acctB inB at h; simpa using h

theorem l2Account_any (n : Int) (w : World) :
    Calls Try.prog 183 #[.int .i64 n] w fun e w' => e = .returned (.bool (acctB n)) ∧ w = w' := by
  go_enter Try.func183, Try.ntmps183
  go_wp2_with (go_at_call 51; refine (l1In_any _ _ _ _).mono ?_; rintro e w' ⟨rfl, rfl⟩)
  go_ret
  exact ⟨rfl, rfl⟩

theorem isAccount_any (n : Int) (w : World) :
    Calls Try.prog 188 #[.int .i64 n] w fun e w' => e = .returned (.bool (acctB n)) ∧ w = w' := by
  unfold acctB
  by_cases h1 : 0 ≤ n
  · by_cases h2 : n < 4
    · go_enter Try.func188, Try.ntmps188
      go_wp2
      go_ret
      exact ⟨by rw [inB_yes h1 (by omega)]; rfl, rfl⟩
    · go_enter Try.func188, Try.ntmps188
      go_wp2
      go_ret
      exact ⟨by rw [inB_no (by omega)]; rfl, rfl⟩
  · go_enter Try.func188, Try.ntmps188
    go_wp2
    go_ret
    exact ⟨by rw [inB_no (by omega)]; rfl, rfl⟩

theorem isCmdId_any (n : Int) (w : World) :
    Calls Try.prog 189 #[.int .i64 n] w fun e w' => e = .returned (.bool (inB n 1 999)) ∧ w = w' := by
  by_cases h1 : 1 ≤ n
  · by_cases h2 : n ≤ 999
    · go_enter Try.func189, Try.ntmps189
      go_wp2
      go_ret
      exact ⟨by rw [inB_yes h1 (by omega)]; rfl, rfl⟩
    · go_enter Try.func189, Try.ntmps189
      go_wp2
      go_ret
      exact ⟨by rw [inB_no (by omega)]; rfl, rfl⟩
  · go_enter Try.func189, Try.ntmps189
    go_wp2
    go_ret
    exact ⟨by rw [inB_no (by omega)]; rfl, rfl⟩

theorem isAmount_any (n : Int) (w : World) :
    Calls Try.prog 190 #[.int .i64 n] w fun e w' => e = .returned (.bool (inB n 1 1000)) ∧ w = w' := by
  by_cases h1 : 1 ≤ n
  · by_cases h2 : n ≤ 1000
    · go_enter Try.func190, Try.ntmps190
      go_wp2
      go_ret
      exact ⟨by rw [inB_yes h1 (by omega)]; rfl, rfl⟩
    · go_enter Try.func190, Try.ntmps190
      go_wp2
      go_ret
      exact ⟨by rw [inB_no (by omega)]; rfl, rfl⟩
  · go_enter Try.func190, Try.ntmps190
    go_wp2
    go_ret
    exact ⟨by rw [inB_no (by omega)]; rfl, rfl⟩

/-- What is wrong with a command that moves. -/
def codeM (i f t a : Int) : Int := if acctB f then (if acctB t then (if f == t then 5 else if inB i 1 999 then (if inB a 1 1000 then 0 else 6) else 6) else 4) else 4
/-- What is wrong with another one. -/
def codeR (i f : Int) : Int := if acctB f then (if inB i 1 999 then 0 else 6) else 4

set_option maxHeartbeats 1000000 in
theorem l2Code_move (i f t a : Int) (w : World) :
    Calls Try.prog 157 #[.agg #[.int .i64 1, .int .i64 i, .int .i64 f, .int .i64 t, .int .i64 a]] w (IntExt (codeM i f t a) w) := by
  unfold codeM
  cases h0 : acctB f with
  | false =>
    go_enter Try.func157, Try.ntmps157
    go_wp2_with (first | (go_at_call 183; refine (l2Account_any _ _).mono ?_; rintro e w' ⟨rfl, rfl⟩) | (go_at_call 51; refine (l1In_any _ _ _ _).mono ?_; rintro e w' ⟨rfl, rfl⟩))
    go_ret
    exact ⟨rfl, by repeat (first | exact Ext.refl _ | apply Ext.drew | apply Ext.alloc)⟩
  | true =>
    cases h1 : acctB t with
    | false =>
      go_enter Try.func157, Try.ntmps157
      go_wp2_with (first | (go_at_call 183; refine (l2Account_any _ _).mono ?_; rintro e w' ⟨rfl, rfl⟩) | (go_at_call 51; refine (l1In_any _ _ _ _).mono ?_; rintro e w' ⟨rfl, rfl⟩))
      go_ret
      exact ⟨rfl, by repeat (first | exact Ext.refl _ | apply Ext.drew | apply Ext.alloc)⟩
    | true =>
      cases h2 : (f == t) with
      | true =>
        go_enter Try.func157, Try.ntmps157
        go_wp2_with (first | (go_at_call 183; refine (l2Account_any _ _).mono ?_; rintro e w' ⟨rfl, rfl⟩) | (go_at_call 51; refine (l1In_any _ _ _ _).mono ?_; rintro e w' ⟨rfl, rfl⟩))
        go_ret
        exact ⟨rfl, by repeat (first | exact Ext.refl _ | apply Ext.drew | apply Ext.alloc)⟩
      | false =>
        cases h3 : inB i 1 999 with
        | false =>
          go_enter Try.func157, Try.ntmps157
          go_wp2_with (first | (go_at_call 183; refine (l2Account_any _ _).mono ?_; rintro e w' ⟨rfl, rfl⟩) | (go_at_call 51; refine (l1In_any _ _ _ _).mono ?_; rintro e w' ⟨rfl, rfl⟩))
          go_ret
          exact ⟨rfl, by repeat (first | exact Ext.refl _ | apply Ext.drew | apply Ext.alloc)⟩
        | true =>
          cases h4 : inB a 1 1000 with
          | false =>
            go_enter Try.func157, Try.ntmps157
            go_wp2_with (first | (go_at_call 183; refine (l2Account_any _ _).mono ?_; rintro e w' ⟨rfl, rfl⟩) | (go_at_call 51; refine (l1In_any _ _ _ _).mono ?_; rintro e w' ⟨rfl, rfl⟩))
            go_ret
            exact ⟨rfl, by repeat (first | exact Ext.refl _ | apply Ext.drew | apply Ext.alloc)⟩
          | true =>
            go_enter Try.func157, Try.ntmps157
            go_wp2_with (first | (go_at_call 183; refine (l2Account_any _ _).mono ?_; rintro e w' ⟨rfl, rfl⟩) | (go_at_call 51; refine (l1In_any _ _ _ _).mono ?_; rintro e w' ⟨rfl, rfl⟩))
            go_ret
            exact ⟨rfl, by repeat (first | exact Ext.refl _ | apply Ext.drew | apply Ext.alloc)⟩

set_option maxHeartbeats 1000000 in
theorem l2Code_read (k i f t a : Int) (w : World) (hk : (k == 1) = false) (_hk0 : (k == 0) = false) :
    Calls Try.prog 157 #[.agg #[.int .i64 k, .int .i64 i, .int .i64 f, .int .i64 t, .int .i64 a]] w (IntExt (codeR i f) w) := by
  unfold codeR
  cases h0 : acctB f with
  | false =>
    go_enter Try.func157, Try.ntmps157
    go_wp2_with (first | (go_at_call 183; refine (l2Account_any _ _).mono ?_; rintro e w' ⟨rfl, rfl⟩) | (go_at_call 51; refine (l1In_any _ _ _ _).mono ?_; rintro e w' ⟨rfl, rfl⟩))
    go_ret
    exact ⟨rfl, by repeat (first | exact Ext.refl _ | apply Ext.drew | apply Ext.alloc)⟩
  | true =>
    cases h1 : inB i 1 999 with
    | false =>
      go_enter Try.func157, Try.ntmps157
      go_wp2_with (first | (go_at_call 183; refine (l2Account_any _ _).mono ?_; rintro e w' ⟨rfl, rfl⟩) | (go_at_call 51; refine (l1In_any _ _ _ _).mono ?_; rintro e w' ⟨rfl, rfl⟩))
      go_ret
      exact ⟨rfl, by repeat (first | exact Ext.refl _ | apply Ext.drew | apply Ext.alloc)⟩
    | true =>
      go_enter Try.func157, Try.ntmps157
      go_wp2_with (first | (go_at_call 183; refine (l2Account_any _ _).mono ?_; rintro e w' ⟨rfl, rfl⟩) | (go_at_call 51; refine (l1In_any _ _ _ _).mono ?_; rintro e w' ⟨rfl, rfl⟩))
      go_ret
      exact ⟨rfl, by repeat (first | exact Ext.refl _ | apply Ext.drew | apply Ext.alloc)⟩

set_option maxHeartbeats 1000000 in
theorem faultOfCmd_move (i f t a : Int) (w : World) :
    Calls Try.prog 175 #[.agg #[.int .i64 1, .int .i64 i, .int .i64 f, .int .i64 t, .int .i64 a]] w (IntExt (codeM i f t a) w) := by
  unfold codeM
  cases h0 : acctB f with
  | false =>
    go_enter Try.func175, Try.ntmps175
    go_wp2_with (first | (go_at_call 188; refine (isAccount_any _ _).mono ?_; rintro e w' ⟨rfl, rfl⟩) | (go_at_call 189; refine (isCmdId_any _ _).mono ?_; rintro e w' ⟨rfl, rfl⟩) | (go_at_call 190; refine (isAmount_any _ _).mono ?_; rintro e w' ⟨rfl, rfl⟩))
    go_ret
    exact ⟨rfl, by repeat (first | exact Ext.refl _ | apply Ext.drew | apply Ext.alloc)⟩
  | true =>
    cases h1 : acctB t with
    | false =>
      go_enter Try.func175, Try.ntmps175
      go_wp2_with (first | (go_at_call 188; refine (isAccount_any _ _).mono ?_; rintro e w' ⟨rfl, rfl⟩) | (go_at_call 189; refine (isCmdId_any _ _).mono ?_; rintro e w' ⟨rfl, rfl⟩) | (go_at_call 190; refine (isAmount_any _ _).mono ?_; rintro e w' ⟨rfl, rfl⟩))
      go_ret
      exact ⟨rfl, by repeat (first | exact Ext.refl _ | apply Ext.drew | apply Ext.alloc)⟩
    | true =>
      cases h2 : (f == t) with
      | true =>
        go_enter Try.func175, Try.ntmps175
        go_wp2_with (first | (go_at_call 188; refine (isAccount_any _ _).mono ?_; rintro e w' ⟨rfl, rfl⟩) | (go_at_call 189; refine (isCmdId_any _ _).mono ?_; rintro e w' ⟨rfl, rfl⟩) | (go_at_call 190; refine (isAmount_any _ _).mono ?_; rintro e w' ⟨rfl, rfl⟩))
        go_ret
        exact ⟨rfl, by repeat (first | exact Ext.refl _ | apply Ext.drew | apply Ext.alloc)⟩
      | false =>
        cases h3 : inB i 1 999 with
        | false =>
          go_enter Try.func175, Try.ntmps175
          go_wp2_with (first | (go_at_call 188; refine (isAccount_any _ _).mono ?_; rintro e w' ⟨rfl, rfl⟩) | (go_at_call 189; refine (isCmdId_any _ _).mono ?_; rintro e w' ⟨rfl, rfl⟩) | (go_at_call 190; refine (isAmount_any _ _).mono ?_; rintro e w' ⟨rfl, rfl⟩))
          go_ret
          exact ⟨rfl, by repeat (first | exact Ext.refl _ | apply Ext.drew | apply Ext.alloc)⟩
        | true =>
          cases h4 : inB a 1 1000 with
          | false =>
            go_enter Try.func175, Try.ntmps175
            go_wp2_with (first | (go_at_call 188; refine (isAccount_any _ _).mono ?_; rintro e w' ⟨rfl, rfl⟩) | (go_at_call 189; refine (isCmdId_any _ _).mono ?_; rintro e w' ⟨rfl, rfl⟩) | (go_at_call 190; refine (isAmount_any _ _).mono ?_; rintro e w' ⟨rfl, rfl⟩))
            go_ret
            exact ⟨rfl, by repeat (first | exact Ext.refl _ | apply Ext.drew | apply Ext.alloc)⟩
          | true =>
            go_enter Try.func175, Try.ntmps175
            go_wp2_with (first | (go_at_call 188; refine (isAccount_any _ _).mono ?_; rintro e w' ⟨rfl, rfl⟩) | (go_at_call 189; refine (isCmdId_any _ _).mono ?_; rintro e w' ⟨rfl, rfl⟩) | (go_at_call 190; refine (isAmount_any _ _).mono ?_; rintro e w' ⟨rfl, rfl⟩))
            go_ret
            exact ⟨rfl, by repeat (first | exact Ext.refl _ | apply Ext.drew | apply Ext.alloc)⟩

set_option maxHeartbeats 1000000 in
theorem faultOfCmd_read (k i f t a : Int) (w : World) (hk : (k == 1) = false) (_hk0 : (k == 0) = false) :
    Calls Try.prog 175 #[.agg #[.int .i64 k, .int .i64 i, .int .i64 f, .int .i64 t, .int .i64 a]] w (IntExt (codeR i f) w) := by
  unfold codeR
  cases h0 : acctB f with
  | false =>
    go_enter Try.func175, Try.ntmps175
    go_wp2_with (first | (go_at_call 188; refine (isAccount_any _ _).mono ?_; rintro e w' ⟨rfl, rfl⟩) | (go_at_call 189; refine (isCmdId_any _ _).mono ?_; rintro e w' ⟨rfl, rfl⟩) | (go_at_call 190; refine (isAmount_any _ _).mono ?_; rintro e w' ⟨rfl, rfl⟩))
    go_ret
    exact ⟨rfl, by repeat (first | exact Ext.refl _ | apply Ext.drew | apply Ext.alloc)⟩
  | true =>
    cases h1 : inB i 1 999 with
    | false =>
      go_enter Try.func175, Try.ntmps175
      go_wp2_with (first | (go_at_call 188; refine (isAccount_any _ _).mono ?_; rintro e w' ⟨rfl, rfl⟩) | (go_at_call 189; refine (isCmdId_any _ _).mono ?_; rintro e w' ⟨rfl, rfl⟩) | (go_at_call 190; refine (isAmount_any _ _).mono ?_; rintro e w' ⟨rfl, rfl⟩))
      go_ret
      exact ⟨rfl, by repeat (first | exact Ext.refl _ | apply Ext.drew | apply Ext.alloc)⟩
    | true =>
      go_enter Try.func175, Try.ntmps175
      go_wp2_with (first | (go_at_call 188; refine (isAccount_any _ _).mono ?_; rintro e w' ⟨rfl, rfl⟩) | (go_at_call 189; refine (isCmdId_any _ _).mono ?_; rintro e w' ⟨rfl, rfl⟩) | (go_at_call 190; refine (isAmount_any _ _).mono ?_; rintro e w' ⟨rfl, rfl⟩))
      go_ret
      exact ⟨rfl, by repeat (first | exact Ext.refl _ | apply Ext.drew | apply Ext.alloc)⟩

end Go.Proofs.Ytihknedmkkakhaa

namespace Go.Proofs.Ytihknedmkkakhaa
open Go.RowKit
set_option linter.unusedVariables false

def zeroB (i f t a : Int) : Bool := i == 0 && (f == 0 && (t == 0 && a == 0))
/-- Whether a command is good. -/
def goodB (k i f t a : Int) : Bool := if k == 0 then zeroB i f t a else if k == 1 then codeM i f t a == 0 else if k == 2 then (codeR i f == 0 && t == 0) && a == 0 else false
theorem goodB_0 (i f t a : Int) : goodB 0 i f t a = zeroB i f t a := rfl
theorem goodB_1 (i f t a : Int) : goodB 1 i f t a = (codeM i f t a == 0) := rfl
theorem goodB_2 (i f t a : Int) : goodB 2 i f t a = ((codeR i f == 0 && t == 0) && a == 0) := rfl
theorem goodB_else {k : Int} (i f t a : Int) (h0 : (k == 0) = false) (h1 : (k == 1) = false) (h2 : (k == 2) = false) : goodB k i f t a = false := by
  unfold goodB; simp [h0, h1, h2]

set_option maxHeartbeats 1000000 in
theorem specGood_0 (i f t a : Int) (w : World) :
    Calls Try.prog 132 #[.agg #[.int .i64 0, .int .i64 i, .int .i64 f, .int .i64 t, .int .i64 a]] w (BoolExt (zeroB i f t a) w) := by
  unfold zeroB
  go_enter Try.func132, Try.ntmps132
  go_wp2
  all_goals go_ret
  all_goals refine ⟨?_, by repeat (first | assumption | exact Ext.refl _ | apply Ext.drew | apply Ext.alloc)⟩
  all_goals first | rfl | simp [*]

set_option maxHeartbeats 1000000 in
theorem specGood_1 (i f t a : Int) (w : World) :
    Calls Try.prog 132 #[.agg #[.int .i64 1, .int .i64 i, .int .i64 f, .int .i64 t, .int .i64 a]] w (BoolExt (codeM i f t a == 0) w) := by
  go_enter Try.func132, Try.ntmps132
  go_wp2_with fail
  refine (l2Code_move _ _ _ _ _).mono ?_
  rintro e w' ⟨rfl, hx⟩
  go_wp2
  go_ret
  exact ⟨rfl, Ext.trans (Ext.alloc (Ext.refl _) _) hx⟩

set_option maxHeartbeats 1000000 in
theorem specGood_2 (i f t a : Int) (w : World) :
    Calls Try.prog 132 #[.agg #[.int .i64 2, .int .i64 i, .int .i64 f, .int .i64 t, .int .i64 a]] w (BoolExt ((codeR i f == 0 && t == 0) && a == 0) w) := by
  by_cases ht : t = 0
  · by_cases ha : a = 0
    · subst ht; subst ha
      cases hc : (codeR i f == 0) with
      | false =>
        go_enter Try.func132, Try.ntmps132
        go_wp2_with fail
        refine (l2Code_read 2 _ _ _ _ _ rfl rfl).mono ?_
        rintro e w' ⟨rfl, hx⟩
        go_wp2
        go_ret
        exact ⟨rfl, Ext.trans (Ext.alloc (Ext.refl _) _) hx⟩
      | true =>
        go_enter Try.func132, Try.ntmps132
        go_wp2_with fail
        refine (l2Code_read 2 _ _ _ _ _ rfl rfl).mono ?_
        rintro e w' ⟨rfl, hx⟩
        have c1 := hx.cell (a := ⟨w.heap.size, 3, none⟩) (v := .int .i64 0) (by go_simp)
        have c2 := hx.cell (a := ⟨w.heap.size, 4, none⟩) (v := .int .i64 0) (by go_simp)
        go_wp2
        go_ret
        exact ⟨rfl, Ext.trans (Ext.alloc (Ext.refl _) _) hx⟩
    · have e2 : (a == 0) = false := by simp [ha]
      subst ht
      cases hc : (codeR i f == 0) with
      | false =>
        go_enter Try.func132, Try.ntmps132
        go_wp2_with fail
        refine (l2Code_read 2 _ _ _ _ _ rfl rfl).mono ?_
        rintro e w' ⟨rfl, hx⟩
        go_wp2
        go_ret
        exact ⟨rfl, Ext.trans (Ext.alloc (Ext.refl _) _) hx⟩
      | true =>
        go_enter Try.func132, Try.ntmps132
        go_wp2_with fail
        refine (l2Code_read 2 _ _ _ _ _ rfl rfl).mono ?_
        rintro e w' ⟨rfl, hx⟩
        have c1 := hx.cell (a := ⟨w.heap.size, 3, none⟩) (v := .int .i64 0) (by go_simp)
        have c2 := hx.cell (a := ⟨w.heap.size, 4, none⟩) (v := .int .i64 a) (by go_simp)
        go_wp2
        go_ret
        exact ⟨by rw [e2]; rfl, Ext.trans (Ext.alloc (Ext.refl _) _) hx⟩
  · have e1 : (t == 0) = false := by simp [ht]
    cases hc : (codeR i f == 0) with
    | false =>
      go_enter Try.func132, Try.ntmps132
      go_wp2_with fail
      refine (l2Code_read 2 _ _ _ _ _ rfl rfl).mono ?_
      rintro e w' ⟨rfl, hx⟩
      go_wp2
      go_ret
      exact ⟨rfl, Ext.trans (Ext.alloc (Ext.refl _) _) hx⟩
    | true =>
      go_enter Try.func132, Try.ntmps132
      go_wp2_with fail
      refine (l2Code_read 2 _ _ _ _ _ rfl rfl).mono ?_
      rintro e w' ⟨rfl, hx⟩
      have c1 := hx.cell (a := ⟨w.heap.size, 3, none⟩) (v := .int .i64 t) (by go_simp)
      go_wp2
      go_ret
      exact ⟨by rw [e1]; rfl, Ext.trans (Ext.alloc (Ext.refl _) _) hx⟩

set_option maxHeartbeats 1000000 in
theorem specGood_else (k i f t a : Int) (w : World) (h0 : (k == 0) = false) (h1 : (k == 1) = false) (h2 : (k == 2) = false) :
    Calls Try.prog 132 #[.agg #[.int .i64 k, .int .i64 i, .int .i64 f, .int .i64 t, .int .i64 a]] w (BoolExt false w) := by
  go_enter Try.func132, Try.ntmps132
  go_wp2
  go_ret
  exact ⟨rfl, by repeat (first | assumption | exact Ext.refl _ | apply Ext.drew | apply Ext.alloc)⟩

theorem specGood_any (k i f t a : Int) (w : World) :
    Calls Try.prog 132 #[.agg #[.int .i64 k, .int .i64 i, .int .i64 f, .int .i64 t, .int .i64 a]] w (BoolExt (goodB k i f t a) w) := by
  by_cases h0 : k = 0
  · subst h0; exact specGood_0 i f t a w
  · by_cases h1 : k = 1
    · subst h1; exact specGood_1 i f t a w
    · by_cases h2 : k = 2
      · subst h2; exact specGood_2 i f t a w
      · have g0 : (k == 0) = false := by simp [h0]
        have g1 : (k == 1) = false := by simp [h1]
        have g2 : (k == 2) = false := by simp [h2]
        rw [goodB_else i f t a g0 g1 g2]
        exact specGood_else k i f t a w g0 g1 g2

set_option maxHeartbeats 1000000 in
theorem implGood_0 (i f t a : Int) (w : World) :
    Calls Try.prog 141 #[.agg #[.int .i64 0, .int .i64 i, .int .i64 f, .int .i64 t, .int .i64 a]] w (BoolExt (zeroB i f t a) w) := by
  unfold zeroB
  go_enter Try.func141, Try.ntmps141
  go_wp2
  all_goals go_ret
  all_goals refine ⟨?_, by repeat (first | assumption | exact Ext.refl _ | apply Ext.drew | apply Ext.alloc)⟩
  all_goals first | rfl | simp [*]

set_option maxHeartbeats 1000000 in
theorem implGood_1 (i f t a : Int) (w : World) :
    Calls Try.prog 141 #[.agg #[.int .i64 1, .int .i64 i, .int .i64 f, .int .i64 t, .int .i64 a]] w (BoolExt (codeM i f t a == 0) w) := by
  go_enter Try.func141, Try.ntmps141
  go_wp2_with fail
  refine (faultOfCmd_move _ _ _ _ _).mono ?_
  rintro e w' ⟨rfl, hx⟩
  go_wp2
  go_ret
  exact ⟨rfl, Ext.trans (Ext.alloc (Ext.refl _) _) hx⟩

set_option maxHeartbeats 1000000 in
theorem implGood_2 (i f t a : Int) (w : World) :
    Calls Try.prog 141 #[.agg #[.int .i64 2, .int .i64 i, .int .i64 f, .int .i64 t, .int .i64 a]] w (BoolExt ((codeR i f == 0 && t == 0) && a == 0) w) := by
  by_cases ht : t = 0
  · by_cases ha : a = 0
    · subst ht; subst ha
      go_enter Try.func141, Try.ntmps141
      go_wp2_with fail
      refine (faultOfCmd_read 2 _ _ _ _ _ rfl rfl).mono ?_
      rintro e w' ⟨rfl, hx⟩
      go_wp2
      go_ret
      exact ⟨by simp, Ext.trans (Ext.alloc (Ext.refl _) _) hx⟩
    · have e2 : (a != 0) = true := by simp [ha]
      have e3 : (a == 0) = false := by simp [ha]
      subst ht
      go_enter Try.func141, Try.ntmps141
      go_wp2
      go_ret
      exact ⟨by simp [ha], by repeat (first | assumption | exact Ext.refl _ | apply Ext.drew | apply Ext.alloc)⟩
  · have e1 : (t != 0) = true := by simp [ht]
    go_enter Try.func141, Try.ntmps141
    go_wp2
    go_ret
    exact ⟨by simp [ht], by repeat (first | assumption | exact Ext.refl _ | apply Ext.drew | apply Ext.alloc)⟩

set_option maxHeartbeats 1000000 in
theorem implGood_else (k i f t a : Int) (w : World) (h0 : (k == 0) = false) (h1 : (k == 1) = false) (h2 : (k == 2) = false) :
    Calls Try.prog 141 #[.agg #[.int .i64 k, .int .i64 i, .int .i64 f, .int .i64 t, .int .i64 a]] w (BoolExt false w) := by
  go_enter Try.func141, Try.ntmps141
  go_wp2
  go_ret
  exact ⟨rfl, by repeat (first | assumption | exact Ext.refl _ | apply Ext.drew | apply Ext.alloc)⟩

theorem implGood_any (k i f t a : Int) (w : World) :
    Calls Try.prog 141 #[.agg #[.int .i64 k, .int .i64 i, .int .i64 f, .int .i64 t, .int .i64 a]] w (BoolExt (goodB k i f t a) w) := by
  by_cases h0 : k = 0
  · subst h0; exact implGood_0 i f t a w
  · by_cases h1 : k = 1
    · subst h1; exact implGood_1 i f t a w
    · by_cases h2 : k = 2
      · subst h2; exact implGood_2 i f t a w
      · have g0 : (k == 0) = false := by simp [h0]
        have g1 : (k == 1) = false := by simp [h1]
        have g2 : (k == 2) = false := by simp [h2]
        rw [goodB_else i f t a g0 g1 g2]
        exact implGood_else k i f t a w g0 g1 g2

end Go.Proofs.Ytihknedmkkakhaa

namespace Go.Proofs.Ytihknedmkkakhaa
open Go.RowKit

def isGrp (n : Int) : Bool := n == 3 || n == 5
theorem isGrp_of {n : Int} (h : isGrp n = true) : n = 3 ∨ n = 5 := by simpa [isGrp] using h
theorem isGrp_no {n : Int} (h : isGrp n = false) : (n == 3) = false ∧ (n == 5) = false := by simpa [isGrp] using h

theorem specIsGroup_any (n : Int) (w : World) : Calls Try.prog 100 #[.int .i64 n] w (fun e w' => e = .returned (.bool (isGrp n)) ∧ w = w') := by
  cases h : isGrp n with
  | true =>
    rcases isGrp_of h with rfl | rfl
    all_goals
      clear h
      go_enter Try.func100, Try.ntmps100
      go_wp2
      go_ret
      exact ⟨rfl, rfl⟩
  | false =>
    obtain ⟨h3, h5⟩ := isGrp_no h
    clear h
    go_enter Try.func100, Try.ntmps100
    go_wp2
    go_ret
    exact ⟨rfl, rfl⟩
theorem implIsGroup_any (n : Int) (w : World) : Calls Try.prog 105 #[.int .i64 n] w (fun e w' => e = .returned (.bool (isGrp n)) ∧ w = w') := by
  cases h : isGrp n with
  | true =>
    rcases isGrp_of h with rfl | rfl
    all_goals
      clear h
      go_enter Try.func105, Try.ntmps105
      go_wp2
      go_ret
      exact ⟨rfl, rfl⟩
  | false =>
    obtain ⟨h3, h5⟩ := isGrp_no h
    clear h
    go_enter Try.func105, Try.ntmps105
    go_wp2
    go_ret
    exact ⟨rfl, rfl⟩

end Go.Proofs.Ytihknedmkkakhaa

namespace Go.Proofs.Ytihknedmkkakhaa
open Go.RowKit

set_option maxHeartbeats 400000 in
theorem l1All_any (v : Value) (l : List Int) (lo hi : Int) (w : World) (hv : Ints w v l) :
    Calls Try.prog 158 #[v, .int .i64 lo, .int .i64 hi] w (BoolExt (allIn l lo hi) w) := by
  obtain ⟨av, cv, rfl, hlv, _, hcv⟩ := hv
  unfold maxLen at hlv
  go_enter Try.func158, Try.ntmps158
  go_wp2
  go_loopw [8, 11] (fun _ i wr => ∃ k : Nat, k ≤ l.length ∧ i = .int .i64 k ∧ (l.take k).all (fun x => inB x lo hi) = true ∧ Ext w wr) (fun _ i _ => l.length - (intOf i).toNat)
  case atStart => exact ⟨0, Nat.zero_le _, rfl, by simp, Ext.refl _⟩
  case round =>
    obtain ⟨k, hk, rfl, ht, hx⟩ := hrel
    have HT := Lib.hid ht
    clear ht
    by_cases hlt : k < l.length
    · obtain ⟨bv, ov, rfl, dv⟩ := hcv (by omega)
      have gv := hx.cell (dv k hlt)
      clear hcv dv
      cases hp : inB l[k] lo hi with
      | true =>
        go_wp2_with (go_at_call 51; refine (l1In_any _ _ _ _).mono ?_; rintro e w' ⟨rfl, rfl⟩)
        go_roundw
        case rel => exact ⟨k + 1, by omega, by go_num, all_take_succ hlt _ HT.out (by simpa [hlt] using hp), hx⟩
        case measure => simp [intOf]; omega
      | false =>
        go_wp2_with (go_at_call 51; refine (l1In_any _ _ _ _).mono ?_; rintro e w' ⟨rfl, rfl⟩)
        go_ret
        refine ⟨?_, hx⟩
        have hf : allIn l lo hi = false := all_false_at hlt _ (by simpa [hlt] using hp)
        rw [hf]; rfl
    · obtain rfl : k = l.length := by omega
      go_wp2
      go_ret
      refine ⟨?_, hx⟩
      have hf : allIn l lo hi = true := by have h := HT.out; rwa [List.take_length] at h
      rw [hf]; rfl


end Go.Proofs.Ytihknedmkkakhaa

namespace Go.Proofs.Ytihknedmkkakhaa
open Go.RowKit
set_option linter.unusedVariables false

/-- Whether the numbers fit a group of n. -/
def goodD (n s : Int) (l : List Int) : Bool := inB s 0 999 && decide ((l.length : Int) = n) && allIn l 0 6
def goodA (n s : Int) (l : List Int) : Bool := isGrp n && goodD n s l
theorem goodD_s {n s : Int} {l : List Int} (h : inB s 0 999 = false) : goodD n s l = false := by unfold goodD; rw [h]; rfl
theorem goodD_l {n s : Int} {l : List Int} (h : (l.length : Int) ≠ n) : goodD n s l = false := by unfold goodD; rw [decide_eq_false h, Bool.and_false, Bool.false_and]
theorem goodD_a {n s : Int} {l : List Int} (h : inB s 0 999 = true) (hl : (l.length : Int) = n) : goodD n s l = allIn l 0 6 := by unfold goodD; rw [h, decide_eq_true hl]; rfl
theorem goodD_of {n s : Int} {l : List Int} (h : goodD n s l = true) : inB s 0 999 = true ∧ (l.length : Int) = n ∧ allIn l 0 6 = true := by
  unfold goodD at h
  simp only [Bool.and_eq_true, decide_eq_true_eq] at h
  exact ⟨h.1.1, h.1.2, h.2⟩

set_option maxHeartbeats 1000000 in
theorem l3Attr_any (n s : Int) (u : Value) (l : List Int) (w : World) (hv : Ints w u l) :
    Calls Try.prog 133 #[.int .i64 n, .agg #[.int .i64 s, u]] w (BoolExt (goodD n s l) w) := by
  obtain ⟨au, cu, rfl, hlu, hcap, hcu⟩ := hv
  have HV : Hid (Ints w (.slice au l.length cu) l) := Lib.hid ⟨au, cu, rfl, hlu, hcap, hcu⟩
  clear hlu hcap hcu
  cases hp : inB s 0 999 with
  | false =>
    have HG := Lib.hid (goodD_s (n := n) (l := l) hp)
    have HP := Lib.hid hp
    clear hp
    go_enter Try.func133, Try.ntmps133
    go_wp2_with fail
    refine (l1In_any _ _ _ _).mono ?_
    rintro e w' ⟨rfl, rfl⟩
    rw [HP.out]
    go_wp2
    go_ret
    exact ⟨by rw [HG.out]; rfl, Ext.alloc (Ext.refl _) _⟩
  | true =>
    by_cases hl : (l.length : Int) = n
    · have HG := Lib.hid (goodD_a (n := n) hp hl)
      have HP := Lib.hid hp
      have e0 : ((l.length : Int) == n) = true := by simp [hl]
      clear hp hl
      rw [HG.out]
      go_enter Try.func133, Try.ntmps133
      go_wp2_with fail
      refine (l1In_any _ _ _ _).mono ?_
      rintro e w' ⟨rfl, rfl⟩
      rw [HP.out]
      go_wp2_with fail
      refine (l1All_any _ _ _ _ _ (HV.out.ext (Ext.alloc (Ext.refl _) _))).mono ?_
      rintro e w1 ⟨rfl, x1⟩
      have hx : Ext w w1 := (Ext.alloc (Ext.refl _) _).trans x1
      clear x1
      cases hA : allIn l 0 6
      all_goals
        have HA := Lib.hid hA
        clear hA
        go_wp2
        go_ret
        exact ⟨by rw [HA.out]; rfl, hx⟩
    · have HG := Lib.hid (goodD_l (s := s) hl)
      have HP := Lib.hid hp
      have e0 : ((l.length : Int) == n) = false := by simp [hl]
      clear hp hl
      go_enter Try.func133, Try.ntmps133
      go_wp2_with fail
      refine (l1In_any _ _ _ _).mono ?_
      rintro e w' ⟨rfl, rfl⟩
      rw [HP.out]
      go_wp2
      go_ret
      exact ⟨by rw [HG.out]; rfl, Ext.alloc (Ext.refl _) _⟩

theorem goodA_no {n s : Int} {l : List Int} (h : isGrp n = false) : goodA n s l = false := by unfold goodA; rw [h]; rfl
theorem goodA_d {n s : Int} {l : List Int} (h : goodD n s l = false) : goodA n s l = false := by unfold goodA; rw [h, Bool.and_false]
theorem goodA_of {n s : Int} {l : List Int} (h : goodA n s l = true) : isGrp n = true ∧ goodD n s l = true := by unfold goodA at h; simpa using h

set_option maxHeartbeats 1000000 in
/-- The program's function where the loop is not come to. -/
theorem implGoodAttr_early (n s : Int) (u : Value) (l : List Int) (w : World) (hv : Ints w u l) (h : isGrp n = false ∨ (l.length : Int) ≠ n ∨ s < 0 ∨ 999 < s) :
    Calls Try.prog 163 #[.int .i64 n, .agg #[.int .i64 s, u]] w (BoolExt false w) := by
  obtain ⟨au, cu, rfl, hlu, hcap, hcu⟩ := hv
  clear hlu hcap hcu
  cases hg : isGrp n with
  | false =>
    have HG := Lib.hid hg
    clear hg h
    go_enter Try.func163, Try.ntmps163
    go_wp2_with fail
    refine (implIsGroup_any _ _).mono ?_
    rintro e w' ⟨rfl, rfl⟩
    rw [HG.out]
    go_wp2
    go_ret
    exact ⟨rfl, Ext.alloc (Ext.refl _) _⟩
  | true =>
    have h' : (l.length : Int) ≠ n ∨ s < 0 ∨ 999 < s := by
      rcases h with h | h
      · rw [hg] at h; cases h
      · exact h
    clear h
    have HG := Lib.hid hg
    clear hg
    by_cases hl : (l.length : Int) = n
    · have h2 : s < 0 ∨ 999 < s := by
        rcases h' with h | h
        · exact absurd hl h
        · exact h
      have e0 : ((l.length : Int) != n) = false := by simp [hl]
      clear h' hl
      by_cases hs : s < 0
      · clear h2
        go_enter Try.func163, Try.ntmps163
        go_wp2_with fail
        refine (implIsGroup_any _ _).mono ?_
        rintro e w' ⟨rfl, rfl⟩
        rw [HG.out]
        go_wp2
        go_ret
        exact ⟨rfl, Ext.alloc (Ext.refl _) _⟩
      · have h0 : 0 ≤ s := by omega
        have h1 : 999 < s := by omega
        clear h2 hs
        go_enter Try.func163, Try.ntmps163
        go_wp2_with fail
        refine (implIsGroup_any _ _).mono ?_
        rintro e w' ⟨rfl, rfl⟩
        rw [HG.out]
        go_wp2
        go_ret
        exact ⟨rfl, Ext.alloc (Ext.refl _) _⟩
    · have e0 : ((l.length : Int) != n) = true := by simp [hl]
      clear h' hl
      go_enter Try.func163, Try.ntmps163
      go_wp2_with fail
      refine (implIsGroup_any _ _).mono ?_
      rintro e w' ⟨rfl, rfl⟩
      rw [HG.out]
      go_wp2
      go_ret
      exact ⟨rfl, Ext.alloc (Ext.refl _) _⟩

set_option maxHeartbeats 1000000 in
/-- The program's function where the loop is come to. -/
theorem implGoodAttr_loop (n s : Int) (u : Value) (l : List Int) (w : World) (hv : Ints w u l) (hg : isGrp n = true) (hl : (l.length : Int) = n) (h0 : 0 ≤ s) (h1 : s ≤ 999) :
    Calls Try.prog 163 #[.int .i64 n, .agg #[.int .i64 s, u]] w (BoolExt (allIn l 0 6) w) := by
  obtain ⟨au, cu, rfl, hlu, hcap, hcu⟩ := hv
  have hlen : l.length ≤ 5 := by rcases isGrp_of hg with h | h <;> omega
  have HG := Lib.hid hg
  have e0 : ((l.length : Int) != n) = false := by simp [hl]
  have e1 : (s < 0) = False := by simp; omega
  clear hlu hcap hg hl e1
  go_enter Try.func163, Try.ntmps163
  go_wp2_with fail
  refine (implIsGroup_any _ _).mono ?_
  rintro e w' ⟨rfl, rfl⟩
  rw [HG.out]
  go_wp2
  go_loopw [6, 30] (fun _ i wr => ∃ k : Nat, k ≤ l.length ∧ i = .int .i64 k ∧ Hid ((l.take k).all (fun x => inB x 0 6) = true) ∧ Ext w wr) (fun _ i _ => l.length - (intOf i).toNat)
  case atStart => exact ⟨0, Nat.zero_le _, rfl, Lib.hid (by simp), Ext.alloc (Ext.refl _) _⟩
  case round =>
    obtain ⟨k, hk, rfl, HT, hx⟩ := hrel
    by_cases hlt : k < l.length
    · obtain ⟨bv, ov, rfl, dv⟩ := hcu (by omega)
      have gv := hx.cell (dv k hlt)
      rw [List.getElem?_eq_getElem hlt, Option.getD_some] at gv
      obtain ⟨y, hy⟩ : ∃ y : Int, y = l[k] := ⟨_, rfl⟩
      rw [← hy] at gv
      have HY := Lib.hid hy
      clear hcu dv hy
      by_cases ha : y < 0
      · go_wp2
        go_ret
        refine ⟨?_, hx⟩
        have hf : allIn l 0 6 = false := all_false_at hlt _ (by rw [List.getElem?_eq_getElem hlt, Option.getD_some, ← HY.out]; exact inB_no (by omega))
        rw [hf]; rfl
      · have ha' : 0 ≤ y := by omega
        clear ha
        by_cases hb : 6 < y
        · go_wp2
          go_ret
          refine ⟨?_, hx⟩
          have hf : allIn l 0 6 = false := all_false_at hlt _ (by rw [List.getElem?_eq_getElem hlt, Option.getD_some, ← HY.out]; exact inB_no (by omega))
          rw [hf]; rfl
        · have hb' : y ≤ 6 := by omega
          clear hb
          go_wp2
          go_roundw
          case rel => exact ⟨k + 1, by omega, by go_num, Lib.hid (all_take_succ hlt _ HT.out (by rw [List.getElem?_eq_getElem hlt, Option.getD_some, ← HY.out]; exact inB_yes ha' hb')), hx⟩
          case measure => simp [intOf]; omega
    · obtain rfl : k = l.length := by omega
      go_wp2
      go_ret
      refine ⟨?_, hx⟩
      have hf : allIn l 0 6 = true := by have h := HT.out; rwa [List.take_length] at h
      rw [hf]; rfl

theorem implGoodAttr_any (n s : Int) (u : Value) (l : List Int) (w : World) (hv : Ints w u l) :
    Calls Try.prog 163 #[.int .i64 n, .agg #[.int .i64 s, u]] w (BoolExt (goodA n s l) w) := by
  by_cases h : isGrp n = false ∨ (l.length : Int) ≠ n ∨ s < 0 ∨ 999 < s
  · have e : goodA n s l = false := by
      rcases h with h | h | h
      · exact goodA_no h
      · exact goodA_d (goodD_l h)
      · exact goodA_d (goodD_s (inB_no (by omega)))
    rw [e]
    exact implGoodAttr_early n s u l w hv h
  · have hg : isGrp n = true := by
      cases hh : isGrp n with
      | true => rfl
      | false => exact absurd (Or.inl hh) h
    have hl : (l.length : Int) = n := Classical.byContradiction fun hh => h (.inr (.inl hh))
    have h0 : 0 ≤ s := by
      by_cases hh : s < 0
      · exact absurd (.inr (.inr (.inl hh))) h
      · omega
    have h1 : s ≤ 999 := by
      by_cases hh : 999 < s
      · exact absurd (.inr (.inr (.inr hh))) h
      · omega
    have e : goodA n s l = allIn l 0 6 := by unfold goodA; rw [hg, goodD_a (inB_yes h0 h1) hl]; rfl
    rw [e]
    exact implGoodAttr_loop n s u l w hv hg hl h0 h1

end Go.Proofs.Ytihknedmkkakhaa

namespace Go.Proofs.Ytihknedmkkakhaa
open Go.RowKit
set_option linter.unusedVariables false

/-- The number at a place, 0 behind the end. -/
def at0 (l : List Int) (j : Nat) : Int := l[j]?.getD 0
/-- The first five numbers. -/
def five (l : List Int) : Array Value := #[.int .i64 (at0 l 0), .int .i64 (at0 l 1), .int .i64 (at0 l 2), .int .i64 (at0 l 3), .int .i64 (at0 l 4)]
def FiveExt (l : List Int) (w : World) (e : Ending) (w' : World) : Prop := e = .returned (.agg (five l)) ∧ Ext w w'

theorem splice_five (l : List Int) : splice [Value.int .i64 0, .int .i64 0, .int .i64 0, .int .i64 0, .int .i64 0] 0 ((l.map (Value.int .i64)).take 5) = (five l).toList := by
  match l with
  | [] => rfl
  | [a] => rfl
  | [a, b] => rfl
  | [a, b, c] => rfl
  | [a, b, c, d] => rfl
  | a :: b :: c :: d :: e :: r => simp [splice, five, at0]

theorem setc_heap (w : World) (b o : Nat) (v : Value) (k : Nat) (h : k ≠ b) : (w.setCell ⟨b, o, none⟩ v).heap[k]? = w.heap[k]? := Below.heap_setCell _ _ _ k h

set_option maxRecDepth 100000 in
set_option maxHeartbeats 1000000 in
theorem depsIn_any (u : Value) (l : List Int) (w : World) (hv : Ints w u l) :
    Calls Try.prog 184 #[u] w (FiveExt l w) := by
  obtain ⟨au, cu, rfl, hlu, hcap, hcu⟩ := hv
  have hlu' : l.length ≤ 9223372036854775807 := by unfold maxLen at hlu; exact hlu
  have HCU := Lib.hid hcu
  have hcap1 : l.length ≤ cu := hcap.1
  clear hlu hcap hcu
  have hz0 : (w.alloc (.cells #[.int .i64 0, .int .i64 0, .int .i64 0, .int .i64 0, .int .i64 0] 196)).heap.size = w.heap.size + 1 := by simp
  have HZ := Lib.hid hz0
  clear hz0
  go_enter Try.func184, Try.ntmps184
  go_wp2_with (with_reducible refine wpList_copy_splice rfl _ _ 30 30 rfl 3 Try.underlying30 rfl _ _ 5 5 l.length cu rfl rfl (w.heap.size + 1) 0 [Value.int .i64 0, .int .i64 0, .int .i64 0, .int .i64 0, .int .i64 0] 196 ?c1 ((l.take 5).map (Value.int .i64)) ?c2 ?c3 ?c4 ?c5 (w.heap.size + 1) (w.alloc (.cells #[.int .i64 0, .int .i64 0, .int .i64 0, .int .i64 0, .int .i64 0] 196)) ?c6 (Nat.le_refl _) ?_)
  case c1 =>
    have h := heap_alloc_new (w.alloc (.cells #[.int .i64 0, .int .i64 0, .int .i64 0, .int .i64 0, .int .i64 0] 196)) (.cells #[.int .i64 0, .int .i64 0, .int .i64 0, .int .i64 0, .int .i64 0] 196)
    rw [HZ.out] at h
    exact h
  case c2 =>
    rw [List.length_map, List.length_take]
    exact Nat.min_comm _ _
  case c3 =>
    intro hp
    have hp' : 0 < l.length := by
      omega
    obtain ⟨b, off, rfl, hc⟩ := HCU.out hp'
    refine ⟨_, rfl, fun j z hj => ?_⟩
    have hj5 : j < l.length := by
      have := (List.getElem?_eq_some_iff.1 hj).1
      simp at this; omega
    have hx := (Ext.alloc (Ext.alloc (Ext.refl w) (.cells #[.int .i64 0, .int .i64 0, .int .i64 0, .int .i64 0, .int .i64 0] 196)) (.cells #[.int .i64 0, .int .i64 0, .int .i64 0, .int .i64 0, .int .i64 0] 196)).cell (hc j hj5)
    rw [show (⟨b, off, none⟩ : Addr).add j = ⟨b, off + j, none⟩ by simp [Addr.add], hx]
    have hj' : j < ((l.map (Value.int .i64)).take 5).length := (List.getElem?_eq_some_iff.1 hj).1
    rw [List.getElem?_eq_getElem hj'] at hj
    rw [← hj]
    simp [List.getElem?_eq_getElem hj5]
  case c4 =>
    rw [List.length_map, List.length_take]
    simp; omega
  case c5 =>
    intro z hz
    obtain ⟨q, _, rfl⟩ := List.mem_map.1 hz
    rfl
  case c6 => exact (Below.refl _ _).alloc (by rw [HZ.out]; exact Nat.le_refl _) _
  intro w' HG hb
  have hg := HG.out
  rw [splice_five] at hg
  have hcells : ∀ j, w'.cell? ⟨w.heap.size + 1, j, none⟩ = (five l)[j]? := fun j => by rw [cell_of_row w' _ j _ _ _ hg]
  have hx : Ext w w' := (Ext.alloc (Ext.refl w) _).trans (by
    show Below _ _ _
    rw [HZ.out]; exact hb)
  have d0 : w'.cell? ⟨w.heap.size + 1, 0, none⟩ = some (.int .i64 (at0 l 0)) := hcells 0
  have d1 : w'.cell? ⟨w.heap.size + 1, 1, none⟩ = some (.int .i64 (at0 l 1)) := hcells 1
  have d2 : w'.cell? ⟨w.heap.size + 1, 2, none⟩ = some (.int .i64 (at0 l 2)) := hcells 2
  have d3 : w'.cell? ⟨w.heap.size + 1, 3, none⟩ = some (.int .i64 (at0 l 3)) := hcells 3
  have d4 : w'.cell? ⟨w.heap.size + 1, 4, none⟩ = some (.int .i64 (at0 l 4)) := hcells 4
  have hlow : ∀ j, w'.cell? ⟨w.heap.size, j, none⟩ = (w.alloc (.cells #[.int .i64 0, .int .i64 0, .int .i64 0, .int .i64 0, .int .i64 0] 196)).cell? ⟨w.heap.size, j, none⟩ := fun j => hb.cell (p := ⟨w.heap.size, j, none⟩) (Nat.lt_succ_self _)
  have hfro : ∀ j, w'.frozen? ⟨w.heap.size, j, none⟩ = (w.alloc (.cells #[.int .i64 0, .int .i64 0, .int .i64 0, .int .i64 0, .int .i64 0] 196)).frozen? ⟨w.heap.size, j, none⟩ := fun j => hb.frozen (p := ⟨w.heap.size, j, none⟩) (Nat.lt_succ_self _)
  have c0 : w'.cell? ⟨w.heap.size, 0, none⟩ = some (.int .i64 0) := (hlow 0).trans (by go_simp)
  have c1 : w'.cell? ⟨w.heap.size, 1, none⟩ = some (.int .i64 0) := (hlow 1).trans (by go_simp)
  have c2 : w'.cell? ⟨w.heap.size, 2, none⟩ = some (.int .i64 0) := (hlow 2).trans (by go_simp)
  have c3 : w'.cell? ⟨w.heap.size, 3, none⟩ = some (.int .i64 0) := (hlow 3).trans (by go_simp)
  have c4 : w'.cell? ⟨w.heap.size, 4, none⟩ = some (.int .i64 0) := (hlow 4).trans (by go_simp)
  have f0 : w'.frozen? ⟨w.heap.size, 0, none⟩ = false := (hfro 0).trans (by go_simp)
  have f1 : w'.frozen? ⟨w.heap.size, 1, none⟩ = false := (hfro 1).trans (by go_simp)
  have f2 : w'.frozen? ⟨w.heap.size, 2, none⟩ = false := (hfro 2).trans (by go_simp)
  have f3 : w'.frozen? ⟨w.heap.size, 3, none⟩ = false := (hfro 3).trans (by go_simp)
  have f4 : w'.frozen? ⟨w.heap.size, 4, none⟩ = false := (hfro 4).trans (by go_simp)
  clear hcells hlow hfro hb HG hg hlu' hcap1
  go_wp2
  refine bodyPost_ret (v := .agg (five l)) (by simp [results, Try.results184, go_sem, c0, c1, c2, c3, c4, five]) rfl ⟨rfl, ?_⟩
  exact ((((hx.setc (Nat.le_refl _)).setc (Nat.le_refl _)).setc (Nat.le_refl _)).setc (Nat.le_refl _)).setc (Nat.le_refl _)

end Go.Proofs.Ytihknedmkkakhaa

namespace Go.Proofs.Ytihknedmkkakhaa
open Go.RowKit

theorem fresh_lit (w : World) (l : List Int) (cs : Array Value) (B : Nat) (hcs : cs.toList = l.map (Value.int .i64)) (hB : B ≤ w.heap.size) (hl : l.length ≤ 1048576) :
    Fresh B (w.alloc (.cells cs 3)) (.slice (some ⟨w.heap.size, 0, none⟩) l.length l.length) l := by
  have h := World.ownsRow_lit (e := 3) (size := 1) w cs l.length hB (by unfold maxLen; omega) (by rw [← Array.length_toList, hcs]; simp)
  unfold Fresh; rw [← hcs]; exact h

theorem fresh_lit2 (w : World) (o : Obj) (l : List Int) (n : Nat) (cs : Array Value) (hcs : cs.toList = l.map (Value.int .i64)) (hn : n = l.length) (hl : l.length ≤ 1048576) :
    Fresh w.heap.size ((w.alloc o).alloc (.cells cs 3)) (.slice (some ⟨w.heap.size + 1, 0, none⟩) n n) l := by
  have e : (w.alloc o).heap.size = w.heap.size + 1 := by simp
  have h := fresh_lit (w.alloc o) l cs w.heap.size hcs (by omega) hl
  rw [e] at h
  rw [hn]; exact h
theorem size_alloc_le {n : Nat} {w : World} {o : Obj} (h : n ≤ w.heap.size) : n ≤ (w.alloc o).heap.size := by
  have := (Ext.alloc (Ext.refl w) o).size
  omega
theorem cell_alloc_one (w : World) (x : Value) (T : TypeId) : (w.alloc (.cells #[x] T)).cell? ⟨w.heap.size, 0, none⟩ = some x := by go_simp

/-- Behind an append: only the slice's own block has turned, and there may be new ones. -/
def Kept (B : Nat) (w w' : World) : Prop := ∀ w0 : World, Ext w0 w → w0.heap.size ≤ B → Ext w0 w'

theorem wpList_push {ops : Array Oper} {rest : List Oper} {o : Oper} {a : Act} {Q : Exit → Act → World → Prop} {w : World} (hgd : o.guard = none) (s x : Operand)
    (ho : o.op = .call { callee := .builtin .append, args := #[s, x], argTypes := #[30, 30] })
    (B : Nat) (v : Value) (l : List Int) (n : Int) (hs : a.eval s = v) (hf : Fresh B w v l) (ad : Addr) (c : Nat) (hx : a.eval x = .slice (some ad) 1 c)
    (hc : w.cell? ad = some (.int .i64 n)) (hl : l.length ≤ 1099511627776) (hB : B ≤ w.heap.size)
    (h : ∀ v' w', Fresh B w' v' (l ++ [n]) → w.grownBy w' v.ownBlock → Kept B w w' → wpList Try.prog ops Q rest (a.put o.dst v') w') : wpList Try.prog ops Q (o :: rest) a w := by
  obtain ⟨i0, hi, hz0, hz1, hz2⟩ := info_parts Try.infoInt
  refine wpList_append_own _ hgd s x 30 ho B 3 i0 (.int .i64 0) 1 8 Try.underlying30 hi hz0 hz1 hz2 rfl (by decide) v l.length _ hs hf ad 1 c [.int .i64 n] hx rfl ?_ ?_ ?_ ?_ hB ?_
  · intro j u hj
    match j, hj with
    | 0, hj => simp at hj; subst hj; simpa [Addr.add] using hc
  · intro u hu; simp at hu; subst hu; rfl
  · unfold maxLen; omega
  · omega
  · intro v' w' ho' hg _
    refine h v' w' ?_ hg (fun w0 hx0 hB0 => Below.grown hx0 hg hx0.size (fun q hq => Nat.le_trans hB0 (World.ownsRow.lt hf q hq).1))
    unfold Fresh
    rw [List.map_append, List.length_append]; exact ho'

theorem wpList_join {ops : Array Oper} {rest : List Oper} {o : Oper} {a : Act} {Q : Exit → Act → World → Prop} {w : World} (hgd : o.guard = none) (s x : Operand)
    (ho : o.op = .call { callee := .builtin .append, args := #[s, x], argTypes := #[30, 30] })
    (B : Nat) (v u : Value) (l r : List Int) (hs : a.eval s = v) (hf : Fresh B w v l) (hx : a.eval x = u) (hu : Ints w u r)
    (hl : l.length + r.length ≤ 1099511627776) (hB : B ≤ w.heap.size)
    (h : ∀ v' w', Fresh B w' v' (l ++ r) → w.grownBy w' v.ownBlock → Kept B w w' → wpList Try.prog ops Q rest (a.put o.dst v') w') : wpList Try.prog ops Q (o :: rest) a w := by
  obtain ⟨i0, hi, hz0, hz1, hz2⟩ := info_parts Try.infoInt
  obtain ⟨au, cu, rfl, hlu, hcap, hcu⟩ := hu
  cases au with
  | none =>
    have hr : r.length = 0 := by have := hcap.1; have := hcap.2.2 rfl; omega
    have hc0 : cu = 0 := hcap.2.2 rfl
    obtain rfl : r = [] := List.eq_nil_of_length_eq_zero hr
    subst hc0
    refine wpList_append_own_none hgd s x 30 ho B 3 i0 1 Try.underlying30 hi v l.length _ hs hf hx (h v w ?_ ?_ ?_)
    · rw [List.append_nil]; exact hf
    · exact ⟨rfl, rfl, rfl, Nat.le_refl _, fun _ _ _ => rfl⟩
    · exact fun w0 hx0 _ => hx0
  | some ad =>
    refine wpList_append_own _ hgd s x 30 ho B 3 i0 (.int .i64 0) 1 8 Try.underlying30 hi hz0 hz1 hz2 rfl (by decide) v l.length _ hs hf ad r.length cu (r.map (.int .i64)) hx (by simp) ?_ ?_ ?_ ?_ hB ?_
    · intro j z hj
      have hlt : j < r.length := by
        have := (List.getElem?_eq_some_iff.1 hj).1
        simpa using this
      obtain ⟨b, off, hab, hcc⟩ := hcu (by omega)
      cases hab
      have hcj := hcc j hlt
      rw [show (⟨b, off, none⟩ : Addr).add j = ⟨b, off + j, none⟩ by simp [Addr.add], hcj]
      simp [List.getElem?_eq_getElem hlt] at hj ⊢
      exact hj
    · intro z hz
      obtain ⟨q, _, rfl⟩ := List.mem_map.1 hz
      rfl
    · unfold maxLen; omega
    · omega
    · intro v' w' ho' hg _
      refine h v' w' ?_ hg (fun w0 hx0 hB0 => Below.grown hx0 hg hx0.size (fun q hq => Nat.le_trans hB0 (World.ownsRow.lt hf q hq).1))
      unfold Fresh
      rw [List.map_append, List.length_append]; exact ho'

end Go.Proofs.Ytihknedmkkakhaa

namespace Go.Proofs.Ytihknedmkkakhaa
open Go.RowKit
set_option linter.unusedVariables false

set_option maxHeartbeats 400000 in
theorem l1Same_any (u v : Value) (l r : List Int) (w : World) (hu : Ints w u l) (hv : Ints w v r) :
    Calls Try.prog 120 #[u, v] w (BoolExt (decide (l = r)) w) := by
  obtain ⟨au, cu, rfl, hlu, _, hcu⟩ := hu
  obtain ⟨av, cv, rfl, hlv, _, hcv⟩ := hv
  unfold maxLen at hlu hlv
  by_cases hl : l.length = r.length
  · have e0 : ((l.length : Int) != (r.length : Int)) = false := by simp [hl]
    have HL := Lib.hid hl
    clear hl
    go_enter Try.func120, Try.ntmps120
    go_wp2
    go_loopw [5, 13] (fun _ i wr => ∃ k : Nat, k ≤ l.length ∧ i = .int .i64 k ∧ l.take k = r.take k ∧ ∃ nq, wr = w.drewN nq) (fun _ i _ => l.length - (intOf i).toNat)
    case atStart => exact ⟨0, Nat.zero_le _, rfl, rfl, 0, rfl⟩
    case round =>
      obtain ⟨k, hk, rfl, ht, nq0, rfl⟩ := hrel
      have HT := Lib.hid ht
      clear ht
      by_cases hlt : k < l.length
      · have hltr : k < r.length := by have := HL.out; omega
        obtain ⟨bu, ou, rfl, du⟩ := hcu (by omega)
        obtain ⟨bv, ov, rfl, dv⟩ := hcv (by omega)
        have gu := du k hlt
        have gv := dv k hltr
        clear hcu hcv du dv
        go_wp2_with fail
        go_quiet (fail)
        by_cases he : l[k] = r[k]
        · have e1 : (l[k] != r[k]) = false := by simp [he]
          have HE := Lib.hid he
          clear he
          go_wp2
          go_roundw
          case rel => exact ⟨k + 1, by omega, by go_num, take_eq_succ hlt hltr HT.out (by simpa [hlt, hltr] using HE.out), _, rfl⟩
          case measure => simp [intOf]; omega
        · have e1 : (l[k] != r[k]) = true := by simp [he]
          have HE := Lib.hid he
          clear he
          go_wp2
          go_ret
          refine ⟨?_, by repeat (first | exact Ext.refl _ | apply Ext.drewN)⟩
          have hne : decide (l = r) = false := decide_eq_false (fun h => HE.out (by subst h; rfl))
          rw [hne]; rfl
      · have hk' : k = l.length := by omega
        subst hk'
        go_wp2
        go_ret
        refine ⟨?_, by repeat (first | exact Ext.refl _ | apply Ext.drewN)⟩
        have he : decide (l = r) = true := by
          have h := HT.out
          rw [List.take_length, HL.out, List.take_length] at h
          exact decide_eq_true h
        rw [he]; rfl
  · have e0 : ((l.length : Int) != (r.length : Int)) = true := by simp; omega
    have HL := Lib.hid hl
    clear hl
    go_enter Try.func120, Try.ntmps120
    go_wp2
    go_ret
    refine ⟨?_, Ext.refl w⟩
    have hne : decide (l = r) = false := decide_eq_false (fun h => HL.out (by rw [h]))
    rw [hne]; rfl

/-- Whether two attributes are the same. -/
def sameA (s t : Int) (l r : List Int) : Bool := s == t && decide (l = r)
theorem box2 (w : World) (s t : Int) (u v : Value) (T : TypeId) : AttrAt ((w.alloc (.cells #[.int .i64 s, u] T)).alloc (.cells #[.int .i64 t, v] T)) w.heap.size s u ∧ AttrAt ((w.alloc (.cells #[.int .i64 s, u] T)).alloc (.cells #[.int .i64 t, v] T)) (w.heap.size + 1) t v := by
  refine ⟨⟨?_, ?_⟩, ?_, ?_⟩ <;> go_simp
theorem Ext.alloc2 (w : World) (a b : Obj) : Ext w ((w.alloc a).alloc b) := ((Ext.refl w).alloc a).alloc b

set_option maxHeartbeats 1000000 in
theorem specSame_any (s t : Int) (u v : Value) (l r : List Int) (w : World) (hu : Ints w u l) (hv : Ints w v r) :
    Calls Try.prog 131 #[.agg #[.int .i64 s, u], .agg #[.int .i64 t, v]] w (BoolExt (sameA s t l r) w) := by
  unfold sameA
  cases hs : (s == t)
  · go_enter Try.func131, Try.ntmps131
    go_wp2
    go_ret
    exact ⟨rfl, Ext.alloc2 _ _ _⟩
  · rw [Bool.true_and]
    go_enter Try.func131, Try.ntmps131
    go_wp2_with fail
    refine (l1Same_any _ _ l r _ (hu.ext (Ext.alloc2 _ _ _)) (hv.ext (Ext.alloc2 _ _ _))).mono ?_
    rintro e w1 ⟨rfl, x1⟩
    have hx : Ext w w1 := (Ext.alloc2 _ _ _).trans x1
    clear x1
    cases hd : decide (l = r)
    all_goals
      have HD := Lib.hid hd
      clear hd
      go_wp2
      go_ret
      exact ⟨by rw [HD.out]; rfl, hx⟩

end Go.Proofs.Ytihknedmkkakhaa
