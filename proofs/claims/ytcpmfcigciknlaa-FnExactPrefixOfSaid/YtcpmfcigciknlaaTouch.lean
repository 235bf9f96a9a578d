/- Contracts of the functions on the accounts that a command touches, the program's and the model's. -/
import Derived.Test.YtcpmfcigciknlaaPut
import Derived.Test.YtcpmfcigciknlaaGood
import Derived.Test.YtcpmfcigciknlaaL1Has
import Derived.Test.YtcpmfcigciknlaaCmdAt
namespace Go.Proofs.Ytcpmfcigciknlaa
open Go.RowKit
set_option linter.unusedVariables false

/-- The accounts that a command touches. -/
def touchesL (k f t : Int) : List Int := if k == 1 then putI [f] t else if k == 2 then [f] else []
theorem touchesL_1 (f t : Int) : touchesL 1 f t = putI [f] t := rfl
theorem touchesL_2 (f t : Int) : touchesL 2 f t = [f] := rfl
theorem touchesL_else {k : Int} (f t : Int) (h1 : (k == 1) = false) (h2 : (k == 2) = false) : touchesL k f t = [] := by simp [touchesL, h1, h2]

set_option maxHeartbeats 1000000 in
theorem l2Touches_any (k i f t a : Int) (w : World) :
    Calls Try.prog 17 #[.agg #[.int .i64 k, .int .i64 i, .int .i64 f, .int .i64 t, .int .i64 a]] w (NewInts (touchesL k f t) w) := by
  by_cases h1 : k = 1
  · subst h1
    rw [touchesL_1]
    have f0 := fresh_lit2 w (.cells #[.int .i64 1, .int .i64 i, .int .i64 f, .int .i64 t, .int .i64 a] 36) [f] 1 #[.int .i64 f] rfl rfl (by simp)
    go_enter Try.func17, Try.ntmps17
    go_wp2_with fail
    refine (l1Put_any _ _ _ _ f0.ints (by simp)).mono ?_
    rintro e w1 ⟨v', rfl, x1, hor⟩
    have hr : Fresh w.heap.size w1 v' (putI [f] t) := by
      rcases hor with ⟨rfl, hp⟩ | hf
      · rw [hp]; exact f0.ext x1
      · exact hf.more (size_alloc_le (size_alloc_le (Nat.le_refl _)))
    have hx : Ext w w1 := ((Ext.alloc (Ext.refl _) _).alloc _).trans x1
    clear f0 x1 hor
    go_wp2
    go_ret
    exact ⟨_, rfl, hr, hx⟩
  · have e1 : (k == 1) = false := by simp [h1]
    by_cases h2 : k = 2
    · subst h2
      rw [touchesL_2]
      go_enter Try.func17, Try.ntmps17
      go_wp2
      go_ret
      refine ⟨_, rfl, ?_, Ext.alloc (Ext.alloc (Ext.refl _) _) _⟩
      exact fresh_lit2 w _ [f] 1 #[.int .i64 f] rfl rfl (by simp)
    · have e2 : (k == 2) = false := by simp [h2]
      rw [touchesL_else f t e1 e2]
      go_enter Try.func17, Try.ntmps17
      go_wp2
      go_ret
      exact ⟨_, rfl, fresh_nil _ _, Ext.alloc (Ext.refl _) _⟩

/-- Whether a command touches the account j. -/
def touchB (k f t j : Int) : Bool := if k == 1 then t == j || f == j else if k == 2 then f == j else false

/-- The four marks of touchedBy. -/
def FourB (k f t : Int) (w : World) (e : Ending) (w' : World) : Prop :=
  e = .returned (.agg #[.bool (touchB k f t 0), .bool (touchB k f t 1), .bool (touchB k f t 2), .bool (touchB k f t 3)]) ∧ Ext w w'

set_option maxHeartbeats 4000000 in
theorem touchedBy_move (i f t a : Int) (w : World) (hf : 0 ≤ f ∧ f ≤ 3) (ht : 0 ≤ t ∧ t ≤ 3) :
    Calls Try.prog 30 #[.agg #[.int .i64 1, .int .i64 i, .int .i64 f, .int .i64 t, .int .i64 a]] w (FourB 1 f t w) := by
  have hf' : f = 0 ∨ f = 1 ∨ f = 2 ∨ f = 3 := by omega
  have ht' : t = 0 ∨ t = 1 ∨ t = 2 ∨ t = 3 := by omega
  clear hf ht
  rcases hf' with rfl | rfl | rfl | rfl
  all_goals
    rcases ht' with rfl | rfl | rfl | rfl
    all_goals
      go_enter Try.func30, Try.ntmps30
      go_wp2
      exact bodyPost_ret (v := .agg #[.bool (touchB 1 _ _ 0), .bool (touchB 1 _ _ 1), .bool (touchB 1 _ _ 2), .bool (touchB 1 _ _ 3)]) (by simp [results, Try.results30, go_sem, touchB]) rfl ⟨rfl, by repeat (first | exact Ext.refl _ | apply Ext.drew | apply Ext.alloc)⟩

set_option maxHeartbeats 2000000 in
theorem touchedBy_read (i f t a : Int) (w : World) (hf : 0 ≤ f ∧ f ≤ 3) :
    Calls Try.prog 30 #[.agg #[.int .i64 2, .int .i64 i, .int .i64 f, .int .i64 t, .int .i64 a]] w (FourB 2 f t w) := by
  have hf' : f = 0 ∨ f = 1 ∨ f = 2 ∨ f = 3 := by omega
  clear hf
  rcases hf' with rfl | rfl | rfl | rfl
  all_goals
    go_enter Try.func30, Try.ntmps30
    go_wp2
    exact bodyPost_ret (v := .agg #[.bool (touchB 2 _ t 0), .bool (touchB 2 _ t 1), .bool (touchB 2 _ t 2), .bool (touchB 2 _ t 3)]) (by simp [results, Try.results30, go_sem, touchB]) rfl ⟨rfl, by repeat (first | exact Ext.refl _ | apply Ext.drew | apply Ext.alloc)⟩

set_option maxHeartbeats 1000000 in
theorem touchedBy_none (k i f t a : Int) (w : World) (h1 : (k == 1) = false) (h2 : (k == 2) = false) :
    Calls Try.prog 30 #[.agg #[.int .i64 k, .int .i64 i, .int .i64 f, .int .i64 t, .int .i64 a]] w (FourB k f t w) := by
  have hb : ∀ j, touchB k f t j = false := fun j => by simp [touchB, h1, h2]
  have HB := Lib.hid hb
  clear hb
  go_enter Try.func30, Try.ntmps30
  go_wp2
  exact bodyPost_ret (v := .agg #[.bool (touchB k f t 0), .bool (touchB k f t 1), .bool (touchB k f t 2), .bool (touchB k f t 3)]) (by simp [results, Try.results30, go_sem, HB.out]) rfl ⟨rfl, by repeat (first | exact Ext.refl _ | apply Ext.drew | apply Ext.alloc)⟩

theorem codeM_good {i f t a : Int} (h : (codeM i f t a == 0) = true) : (0 ≤ f ∧ f ≤ 3) ∧ (0 ≤ t ∧ t ≤ 3) ∧ f ≠ t ∧ inB i 1 999 = true ∧ inB a 1 1000 = true := by
  unfold codeM at h
  cases h1 : acctB f <;> simp [h1] at h
  cases h2 : acctB t <;> simp [h2] at h
  by_cases h3 : f = t
  · simp [h3] at h
  · simp [h3] at h
    cases h4 : inB i 1 999 <;> simp [h4] at h
    cases h5 : inB a 1 1000 <;> simp [h5] at h
    exact ⟨acctB_yes h1, acctB_yes h2, h3, rfl, rfl⟩
theorem codeR_good {i f : Int} (h : (codeR i f == 0) = true) : (0 ≤ f ∧ f ≤ 3) ∧ inB i 1 999 = true := by
  unfold codeR at h
  cases h1 : acctB f <;> simp [h1] at h
  cases h4 : inB i 1 999 <;> simp [h4] at h
  exact ⟨acctB_yes h1, rfl⟩
/-- What a good command is. -/
theorem goodB_cases {k i f t a : Int} (h : goodB k i f t a = true) : (k = 0 ∧ i = 0 ∧ f = 0 ∧ t = 0 ∧ a = 0) ∨ (k = 1 ∧ (codeM i f t a == 0) = true) ∨ (k = 2 ∧ (codeR i f == 0) = true ∧ t = 0 ∧ a = 0) := by
  by_cases h0 : k = 0
  · subst h0; rw [goodB_0] at h; simp [zeroB] at h; exact .inl ⟨rfl, h.1, h.2.1, h.2.2.1, h.2.2.2⟩
  · by_cases h1 : k = 1
    · subst h1; rw [goodB_1] at h; exact .inr (.inl ⟨rfl, h⟩)
    · by_cases h2 : k = 2
      · subst h2; rw [goodB_2] at h; simp at h; exact .inr (.inr ⟨rfl, by simp [h.1.1], h.1.2, h.2⟩)
      · rw [goodB_else _ _ _ _ (by simp [h0]) (by simp [h1]) (by simp [h2])] at h; cases h

theorem touchedBy_any (k i f t a : Int) (w : World) (hg : goodB k i f t a = true) :
    Calls Try.prog 30 #[.agg #[.int .i64 k, .int .i64 i, .int .i64 f, .int .i64 t, .int .i64 a]] w (FourB k f t w) := by
  rcases goodB_cases hg with ⟨rfl, rfl, rfl, rfl, rfl⟩ | ⟨rfl, hc⟩ | ⟨rfl, hc, rfl, rfl⟩
  · exact touchedBy_none 0 0 0 0 0 w rfl rfl
  · exact touchedBy_move i f t a w (codeM_good hc).1 (codeM_good hc).2.1
  · exact touchedBy_read i f 0 0 w (codeR_good hc).1

/-- The accounts below n that are touched. -/
def touchedTo (k f t : Int) (n : Nat) : List Int := ((List.range n).filter fun (j : Nat) => touchB k f t (j : Int)).map fun (j : Nat) => (j : Int)
theorem touchedTo_hit {k f t : Int} {n : Nat} (h : touchB k f t (n : Int) = true) : touchedTo k f t (n + 1) = touchedTo k f t n ++ [(n : Int)] := by
  simp [touchedTo, List.range_succ, List.filter_append, h]
theorem touchedTo_miss {k f t : Int} {n : Nat} (h : touchB k f t (n : Int) = false) : touchedTo k f t (n + 1) = touchedTo k f t n := by
  simp [touchedTo, List.range_succ, List.filter_append, h]
theorem touchedTo_len (k f t : Int) (n : Nat) : (touchedTo k f t n).length ≤ n := by
  unfold touchedTo
  rw [List.length_map]
  exact Nat.le_trans (List.length_filter_le _ _) (by simp)
theorem touchedTo_all {k i f t a : Int} (hg : goodB k i f t a = true) : touchedTo k f t 4 = touchesL k f t := by
  rcases goodB_cases hg with ⟨rfl, rfl, rfl, rfl, rfl⟩ | ⟨rfl, hc⟩ | ⟨rfl, hc, rfl, rfl⟩
  · decide
  · obtain ⟨hf, ht, hne, _, _⟩ := codeM_good hc
    have hf' : f = 0 ∨ f = 1 ∨ f = 2 ∨ f = 3 := by omega
    have ht' : t = 0 ∨ t = 1 ∨ t = 2 ∨ t = 3 := by omega
    clear hf ht hc hg
    rcases hf' with rfl | rfl | rfl | rfl <;> rcases ht' with rfl | rfl | rfl | rfl <;> first | (exact absurd rfl hne) | decide
  · have hf := (codeR_good hc).1
    have hf' : f = 0 ∨ f = 1 ∨ f = 2 ∨ f = 3 := by omega
    clear hf hc hg
    rcases hf' with rfl | rfl | rfl | rfl <;> decide

end Go.Proofs.Ytcpmfcigciknlaa
