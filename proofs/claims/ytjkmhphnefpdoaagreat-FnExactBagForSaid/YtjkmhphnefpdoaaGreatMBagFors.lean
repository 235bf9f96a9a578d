/- Texts of this proof, part s: words, plain facts, contracts. -/
import Derived.Test.YtjkmhphnefpdoaaGreatMBagForq4
import Derived.Test.YtjkmhphnefpdoaaGreatMBagForr
import Derived.Test.YtjkmhphnefpdoaaGreatMBagForl
import Derived.Test.YtjkmhphnefpdoaaGreatMBagForb
import Derived.Test.YtjkmhphnefpdoaaGreatMBagFora
import Derived.WalkArith
import Derived.Test.YtjkmhphnefpdoaaGreatMBagForc
import Derived.Deep.RegionHeld3
import Derived.Sort.Grow

namespace Go.Proofs.YtjkmhphnefpdoaaGreat
open Go.RowKit
set_option linter.unusedVariables false

def comAt (k : Nat) (R : List RowD) (i : Nat) : List (List Int) := match R[i]? with
  | some r => if r.st == 3 then [[(k : Int), (i : Int) + 1]] else []
  | none => []
/-- What is settled among the first j rows of the list of k, among the first k lists. -/
def comTo (k : Nat) (R : List RowD) (j : Nat) : List (List Int) := (List.range j).flatMap (comAt k R)
def allTo (T : List (List RowD)) (k : Nat) : List (List Int) := (List.range k).flatMap fun p => comTo p (T[p]?.getD []) (T[p]?.getD []).length
theorem comTo_succ (k : Nat) (R : List RowD) (j : Nat) : comTo k R (j + 1) = comTo k R j ++ comAt k R j := by simp [comTo, List.range_succ]
theorem comTo_zero (k : Nat) (R : List RowD) : comTo k R 0 = [] := by simp [comTo]
theorem comAt_yes {k : Nat} {R : List RowD} {j : Nat} (h : j < R.length) (hs : (R[j].st == 3) = true) : comAt k R j = [[(k : Int), (j : Int) + 1]] := by simp [comAt, List.getElem?_eq_getElem h, hs]
theorem comAt_no {k : Nat} {R : List RowD} {j : Nat} (h : j < R.length) (hs : (R[j].st == 3) = false) : comAt k R j = [] := by simp [comAt, List.getElem?_eq_getElem h, hs]
theorem allTo_succ {T : List (List RowD)} {k : Nat} (h : k < T.length) : allTo T (k + 1) = allTo T k ++ comTo k T[k] T[k].length := by simp [allTo, List.range_succ, List.getElem?_eq_getElem h]
theorem allTo_zero (T : List (List RowD)) : allTo T 0 = [] := by simp [allTo]
theorem comAt_len (k : Nat) (R : List RowD) (i : Nat) : (comAt k R i).length ≤ 1 := by
  unfold comAt
  split
  · split <;> simp
  · simp
theorem comTo_len (k : Nat) (R : List RowD) (j : Nat) : (comTo k R j).length ≤ j := by
  induction j with
  | zero => simp [comTo]
  | succ j ih =>
    rw [comTo_succ, List.length_append]
    have := comAt_len k R j
    omega
theorem allTo_len {T : List (List RowD)} (hT : ∀ R ∈ T, R.length ≤ 6) (k : Nat) (hk : k ≤ T.length) : (allTo T k).length ≤ 6 * k := by
  induction k with
  | zero => simp [allTo]
  | succ k ih =>
    have h : k < T.length := by omega
    rw [allTo_succ h, List.length_append]
    have h1 := ih (by omega)
    have h2 := comTo_len k T[k] T[k].length
    have h3 := hT _ (List.getElem_mem h)
    omega
/-- What Committed tells. -/
def comR (n : Int) (T : List (List RowD)) : List (List Int) := if goodTab n T then allTo T T.length else []
theorem comR_no {n : Int} {T : List (List RowD)} (h : goodTab n T = false) : comR n T = [] := by unfold comR; rw [h]; rfl
theorem comR_yes {n : Int} {T : List (List RowD)} (h : goodTab n T = true) : comR n T = allTo T T.length := by unfold comR; rw [h]; rfl

theorem fresh_pair (w : World) (o : Obj) (a b : Int) (o' : Obj) : Fresh w.heap.size (((w.alloc o).alloc (.cells #[.int .i64 a, .int .i64 b] 3)).alloc o') (.slice (some ⟨w.heap.size + 1, 0, none⟩) 2 2) [a, b] :=
  (fresh_lit2 w o [a, b] 2 #[.int .i64 a, .int .i64 b] rfl rfl (by simp)).ext (Ext.alloc1 _ _)
theorem cell_alloc_three (w : World) (a b : Obj) (x : Value) (T : TypeId) : (((w.alloc a).alloc b).alloc (.cells #[x] T)).cell? ⟨w.heap.size + 1 + 1, 0, none⟩ = some x := by go_simp

end Go.Proofs.YtjkmhphnefpdoaaGreat

namespace Go.Proofs.YtjkmhphnefpdoaaGreat
open Go.RowKit
set_option linter.unusedVariables false

/-- The accounts that a command touches. -/
def touchesL (k f t : Int) : List Int := if k == 1 then putI [f] t else if k == 2 then [f] else []
theorem touchesL_1 (f t : Int) : touchesL 1 f t = putI [f] t := rfl
theorem touchesL_2 (f t : Int) : touchesL 2 f t = [f] := rfl
theorem touchesL_else {k : Int} (f t : Int) (h1 : (k == 1) = false) (h2 : (k == 2) = false) : touchesL k f t = [] := by simp [touchesL, h1, h2]

set_option maxHeartbeats 1000000 in
theorem l2Touches_any (k i f t a : Int) (w : World) :
    Calls Tryz.prog 163 #[.agg #[.int .i64 k, .int .i64 i, .int .i64 f, .int .i64 t, .int .i64 a]] w (NewInts (touchesL k f t) w) := by
  by_cases h1 : k = 1
  · subst h1
    rw [touchesL_1]
    have f0 := fresh_lit2 w (.cells #[.int .i64 1, .int .i64 i, .int .i64 f, .int .i64 t, .int .i64 a] 62) [f] 1 #[.int .i64 f] rfl rfl (by simp)
    go_enter Tryz.func163, Tryz.ntmps163
    go_wp2_with fail
    refine (l1Put_any _ _ _ _ f0.ints (by simp)).mono ?_
    rintro e w1 ⟨v', rfl, x1, hor⟩
    have hr : Fresh w.heap.size w1 v' (putI [f] t) := by
      rcases hor with ⟨rfl, hp⟩ | hf
      · rw [hp]; exact f0.ext x1
      · exact hf.more (size_alloc_le (size_alloc_le (Nat.le_refl _)))
    have hx : Ext w w1 := ((Ext.alloc (Ext.refl _) _).alloc _).trans x1
    clear f0 x1 hor
    go_wp2
    go_ret
    exact ⟨_, rfl, hr, hx⟩
  · have e1 : (k == 1) = false := by simp [h1]
    by_cases h2 : k = 2
    · subst h2
      rw [touchesL_2]
      go_enter Tryz.func163, Tryz.ntmps163
      go_wp2
      go_ret
      refine ⟨_, rfl, ?_, Ext.alloc (Ext.alloc (Ext.refl _) _) _⟩
      exact fresh_lit2 w _ [f] 1 #[.int .i64 f] rfl rfl (by simp)
    · have e2 : (k == 2) = false := by simp [h2]
      rw [touchesL_else f t e1 e2]
      go_enter Tryz.func163, Tryz.ntmps163
      go_wp2
      go_ret
      exact ⟨_, rfl, fresh_nil _ _, Ext.alloc (Ext.refl _) _⟩

/-- Whether a command touches the account j. -/
def touchB (k f t j : Int) : Bool := if k == 1 then t == j || f == j else if k == 2 then f == j else false

/-- The four marks of touchedBy. -/
def FourB (k f t : Int) (w : World) (e : Ending) (w' : World) : Prop :=
  e = .returned (.agg #[.bool (touchB k f t 0), .bool (touchB k f t 1), .bool (touchB k f t 2), .bool (touchB k f t 3)]) ∧ Ext w w'

set_option maxHeartbeats 4000000 in
theorem touchedBy_move (i f t a : Int) (w : World) (hf : 0 ≤ f ∧ f ≤ 3) (ht : 0 ≤ t ∧ t ≤ 3) :
    Calls Tryz.prog 206 #[.agg #[.int .i64 1, .int .i64 i, .int .i64 f, .int .i64 t, .int .i64 a]] w (FourB 1 f t w) := by
  have hf' : f = 0 ∨ f = 1 ∨ f = 2 ∨ f = 3 := by omega
  have ht' : t = 0 ∨ t = 1 ∨ t = 2 ∨ t = 3 := by omega
  clear hf ht
  rcases hf' with rfl | rfl | rfl | rfl
  all_goals
    rcases ht' with rfl | rfl | rfl | rfl
    all_goals
      go_enter Tryz.func206, Tryz.ntmps206
      go_wp2
      exact bodyPost_ret (v := .agg #[.bool (touchB 1 _ _ 0), .bool (touchB 1 _ _ 1), .bool (touchB 1 _ _ 2), .bool (touchB 1 _ _ 3)]) (by simp [results, Tryz.results206, go_sem, touchB]) rfl ⟨rfl, by repeat (first | exact Ext.refl _ | apply Ext.drew | apply Ext.alloc)⟩

set_option maxHeartbeats 2000000 in
theorem touchedBy_read (i f t a : Int) (w : World) (hf : 0 ≤ f ∧ f ≤ 3) :
    Calls Tryz.prog 206 #[.agg #[.int .i64 2, .int .i64 i, .int .i64 f, .int .i64 t, .int .i64 a]] w (FourB 2 f t w) := by
  have hf' : f = 0 ∨ f = 1 ∨ f = 2 ∨ f = 3 := by omega
  clear hf
  rcases hf' with rfl | rfl | rfl | rfl
  all_goals
    go_enter Tryz.func206, Tryz.ntmps206
    go_wp2
    exact bodyPost_ret (v := .agg #[.bool (touchB 2 _ t 0), .bool (touchB 2 _ t 1), .bool (touchB 2 _ t 2), .bool (touchB 2 _ t 3)]) (by simp [results, Tryz.results206, go_sem, touchB]) rfl ⟨rfl, by repeat (first | exact Ext.refl _ | apply Ext.drew | apply Ext.alloc)⟩

set_option maxHeartbeats 1000000 in
theorem touchedBy_none (k i f t a : Int) (w : World) (h1 : (k == 1) = false) (h2 : (k == 2) = false) :
    Calls Tryz.prog 206 #[.agg #[.int .i64 k, .int .i64 i, .int .i64 f, .int .i64 t, .int .i64 a]] w (FourB k f t w) := by
  have hb : ∀ j, touchB k f t j = false := fun j => by simp [touchB, h1, h2]
  have HB := Lib.hid hb
  clear hb
  go_enter Tryz.func206, Tryz.ntmps206
  go_wp2
  exact bodyPost_ret (v := .agg #[.bool (touchB k f t 0), .bool (touchB k f t 1), .bool (touchB k f t 2), .bool (touchB k f t 3)]) (by simp [results, Tryz.results206, go_sem, HB.out]) rfl ⟨rfl, by repeat (first | exact Ext.refl _ | apply Ext.drew | apply Ext.alloc)⟩

theorem codeM_good {i f t a : Int} (h : (codeM i f t a == 0) = true) : (0 ≤ f ∧ f ≤ 3) ∧ (0 ≤ t ∧ t ≤ 3) ∧ f ≠ t ∧ inB i 1 999 = true ∧ inB a 1 1000 = true := by
  unfold codeM at h
  cases h1 : acctB f <;> simp [h1] at h
  cases h2 : acctB t <;> simp [h2] at h
  by_cases h3 : f = t
  · simp [h3] at h
  · simp [h3] at h
    cases h4 : inB i 1 999 <;> simp [h4] at h
    cases h5 : inB a 1 1000 <;> simp [h5] at h
    exact ⟨acctB_yes h1, acctB_yes h2, h3, rfl, rfl⟩
theorem codeR_good {i f : Int} (h : (codeR i f == 0) = true) : (0 ≤ f ∧ f ≤ 3) ∧ inB i 1 999 = true := by
  unfold codeR at h
  cases h1 : acctB f <;> simp [h1] at h
  cases h4 : inB i 1 999 <;> simp [h4] at h
  exact ⟨acctB_yes h1, rfl⟩
/-- What a good command is. -/
theorem goodB_cases {k i f t a : Int} (h : goodB k i f t a = true) : (k = 0 ∧ i = 0 ∧ f = 0 ∧ t = 0 ∧ a = 0) ∨ (k = 1 ∧ (codeM i f t a == 0) = true) ∨ (k = 2 ∧ (codeR i f == 0) = true ∧ t = 0 ∧ a = 0) := by
  by_cases h0 : k = 0
  · subst h0; rw [goodB_0] at h; simp [zeroB] at h; exact .inl ⟨rfl, h.1, h.2.1, h.2.2.1, h.2.2.2⟩
  · by_cases h1 : k = 1
    · subst h1; rw [goodB_1] at h; exact .inr (.inl ⟨rfl, h⟩)
    · by_cases h2 : k = 2
      · subst h2; rw [goodB_2] at h; simp at h; exact .inr (.inr ⟨rfl, by simp [h.1.1], h.1.2, h.2⟩)
      · rw [goodB_else _ _ _ _ (by simp [h0]) (by simp [h1]) (by simp [h2])] at h; cases h

theorem touchedBy_any (k i f t a : Int) (w : World) (hg : goodB k i f t a = true) :
    Calls Tryz.prog 206 #[.agg #[.int .i64 k, .int .i64 i, .int .i64 f, .int .i64 t, .int .i64 a]] w (FourB k f t w) := by
  rcases goodB_cases hg with ⟨rfl, rfl, rfl, rfl, rfl⟩ | ⟨rfl, hc⟩ | ⟨rfl, hc, rfl, rfl⟩
  · exact touchedBy_none 0 0 0 0 0 w rfl rfl
  · exact touchedBy_move i f t a w (codeM_good hc).1 (codeM_good hc).2.1
  · exact touchedBy_read i f 0 0 w (codeR_good hc).1

/-- The accounts below n that are touched. -/
def touchedTo (k f t : Int) (n : Nat) : List Int := ((List.range n).filter fun (j : Nat) => touchB k f t (j : Int)).map fun (j : Nat) => (j : Int)
theorem touchedTo_hit {k f t : Int} {n : Nat} (h : touchB k f t (n : Int) = true) : touchedTo k f t (n + 1) = touchedTo k f t n ++ [(n : Int)] := by
  simp [touchedTo, List.range_succ, List.filter_append, h]
theorem touchedTo_miss {k f t : Int} {n : Nat} (h : touchB k f t (n : Int) = false) : touchedTo k f t (n + 1) = touchedTo k f t n := by
  simp [touchedTo, List.range_succ, List.filter_append, h]
theorem touchedTo_len (k f t : Int) (n : Nat) : (touchedTo k f t n).length ≤ n := by
  unfold touchedTo
  rw [List.length_map]
  exact Nat.le_trans (List.length_filter_le _ _) (by simp)
theorem touchedTo_all {k i f t a : Int} (hg : goodB k i f t a = true) : touchedTo k f t 4 = touchesL k f t := by
  rcases goodB_cases hg with ⟨rfl, rfl, rfl, rfl, rfl⟩ | ⟨rfl, hc⟩ | ⟨rfl, hc, rfl, rfl⟩
  · decide
  · obtain ⟨hf, ht, hne, _, _⟩ := codeM_good hc
    have hf' : f = 0 ∨ f = 1 ∨ f = 2 ∨ f = 3 := by omega
    have ht' : t = 0 ∨ t = 1 ∨ t = 2 ∨ t = 3 := by omega
    clear hf ht hc hg
    rcases hf' with rfl | rfl | rfl | rfl <;> rcases ht' with rfl | rfl | rfl | rfl <;> first | (exact absurd rfl hne) | decide
  · have hf := (codeR_good hc).1
    have hf' : f = 0 ∨ f = 1 ∨ f = 2 ∨ f = 3 := by omega
    clear hf hc hg
    rcases hf' with rfl | rfl | rfl | rfl <;> decide

end Go.Proofs.YtjkmhphnefpdoaaGreat

namespace Go.Proofs.YtjkmhphnefpdoaaGreat
open Go.RowKit
set_option linter.unusedVariables false

def touchesOf (k i f t a : Int) : List Int := if goodB k i f t a then touchesL k f t else []
theorem touchesOf_good {k i f t a : Int} (h : goodB k i f t a = true) : touchesOf k i f t a = touchesL k f t := by unfold touchesOf; rw [h]; rfl
theorem touchesOf_bad {k i f t a : Int} (h : goodB k i f t a = false) : touchesOf k i f t a = [] := by unfold touchesOf; rw [h]; rfl

theorem index4_0 (a b c d : Value) (W : World) : (Instr.index 245 (.agg #[a, b, c, d]) (.int .i64 0)).run Tryz.prog W = .ok a W := by kernel_rfl
theorem index4_1 (a b c d : Value) (W : World) : (Instr.index 245 (.agg #[a, b, c, d]) (.int .i64 1)).run Tryz.prog W = .ok b W := by kernel_rfl
theorem index4_2 (a b c d : Value) (W : World) : (Instr.index 245 (.agg #[a, b, c, d]) (.int .i64 2)).run Tryz.prog W = .ok c W := by kernel_rfl
theorem index4_3 (a b c d : Value) (W : World) : (Instr.index 245 (.agg #[a, b, c, d]) (.int .i64 3)).run Tryz.prog W = .ok d W := by kernel_rfl

end Go.Proofs.YtjkmhphnefpdoaaGreat

namespace Go.Proofs.YtjkmhphnefpdoaaGreat
open Go.RowKit
set_option linter.unusedVariables false

/-- Whether two commands touch some one account. -/
def interL (l r : List Int) : Bool := l.any fun x => hasI r x
def interB (k f t k' f' t' : Int) : Bool := interL (touchesL k f t) (touchesL k' f' t')

theorem putI_one_len (f t : Int) : (putI [f] t).length ≤ 2 := by
  unfold putI
  split
  · simp
  · simp; omega
theorem touchesL_len (k f t : Int) : (touchesL k f t).length ≤ 2 := by
  unfold touchesL
  split
  · exact putI_one_len f t
  · split <;> simp

set_option maxHeartbeats 2000000 in
theorem l2Interfere_any (k i f t a k' i' f' t' a' : Int) (w : World) :
    Calls Tryz.prog 111 #[.agg #[.int .i64 k, .int .i64 i, .int .i64 f, .int .i64 t, .int .i64 a], .agg #[.int .i64 k', .int .i64 i', .int .i64 f', .int .i64 t', .int .i64 a']] w (BoolExt (interB k f t k' f' t') w) := by
  have hlen := touchesL_len k f t
  unfold interB interL
  obtain ⟨l, hl⟩ : ∃ l, l = touchesL k f t := ⟨_, rfl⟩
  obtain ⟨r, hr⟩ : ∃ r, r = touchesL k' f' t' := ⟨_, rfl⟩
  rw [← hl] at hlen
  rw [← hl, ← hr]
  have HL := Lib.hid hl
  have HR := Lib.hid hr
  clear hl hr
  go_enter Tryz.func111, Tryz.ntmps111
  go_wp2_with fail
  refine (l2Touches_any _ _ _ _ _ _).mono ?_
  rintro e w1 ⟨v, rfl, f1, x1⟩
  rw [← HL.out] at f1
  have hb := (cmdAt_new2 w (.cells #[.int .i64 k, .int .i64 i, .int .i64 f, .int .i64 t, .int .i64 a] 62) 62 k' i' f' t' a').ext x1
  have HB := Lib.hid hb
  have hx : Ext w w1 := ((Ext.alloc (Ext.refl _) _).alloc _).trans x1
  clear x1 hb
  obtain ⟨av, cv, rfl, hlv, hcap, hcv⟩ := f1.ints
  have HC := Lib.hid hcap
  clear hcap f1 hlv
  go_wp2
  go_loopw [10] (fun j wr => ∃ n : Nat, n ≤ l.length ∧ j = .int .i64 n ∧ (l.take n).any (fun x => hasI r x) = false ∧ Ext w1 wr) (fun j _ => l.length - (intOf j).toNat)
  case atStart => exact ⟨0, by omega, rfl, by simp, Ext.refl _⟩
  case round =>
    obtain ⟨n, hn, rfl, ha, hx1⟩ := hrel
    have HA := Lib.hid ha
    clear ha
    by_cases hlt : n < l.length
    · obtain ⟨bv, ov, rfl, dv⟩ := hcv (by omega)
      have gv := hx1.cell (dv n hlt)
      clear hcv dv
      obtain ⟨c0, c1, c2, c3, c4⟩ := HB.out.ext hx1
      go_wp2_with fail
      refine (l2Touches_any _ _ _ _ _ _).mono ?_
      rintro e w2 ⟨u, rfl, f2, x2⟩
      rw [← HR.out] at f2
      go_wp2_with fail
      refine (l1Has_any _ _ _ _ f2.ints).mono ?_
      rintro e w3 ⟨rfl, x3⟩
      have hx3 : Ext w1 w3 := (hx1.trans x2).trans x3
      clear c0 c1 c2 c3 c4 f2 x2 x3 hx1
      cases hp : hasI r l[n] with
      | true =>
        have HP := Lib.hid hp
        go_wp2
        go_ret
        refine ⟨?_, hx.trans hx3⟩
        have hf : (l.any fun x => hasI r x) = true := any_true_at hlt _ (by rw [List.getElem?_eq_getElem hlt]; exact HP.out)
        rw [hf]; rfl
      | false =>
        have HP := Lib.hid hp
        go_wp2
        go_roundw
        case rel => exact ⟨n + 1, by omega, by go_num, any_take_succ hlt _ HA.out (by rw [List.getElem?_eq_getElem hlt]; exact HP.out), hx3⟩
        case measure => simp [intOf]; omega
    · obtain rfl : n = l.length := by omega
      go_wp2
      go_ret
      refine ⟨?_, hx.trans hx1⟩
      have hf : (l.any fun x => hasI r x) = false := by have h := HA.out; rwa [List.take_length] at h
      rw [hf]; rfl


end Go.Proofs.YtjkmhphnefpdoaaGreat

namespace Go.Proofs.YtjkmhphnefpdoaaGreat
open Go.RowKit
set_option linter.unusedVariables false

/-- An instance by its indices: its number is one more than q. -/
def instCom (T : List (List RowD)) (p q : Nat) : Bool := match (T[p]?.getD [])[q]? with
  | some r => r.st == 3
  | none => false
def instsAt (T : List (List RowD)) (p : Nat) : List (Nat × Nat) := ((List.range (T[p]?.getD []).length).filter (instCom T p)).map fun q => (p, q)
def instsTo (T : List (List RowD)) (k : Nat) : List (Nat × Nat) := (List.range k).flatMap (instsAt T)
def insts (T : List (List RowD)) : List (Nat × Nat) := instsTo T T.length
def pairOf (x : Nat × Nat) : List Int := [(x.1 : Int), (x.2 : Int) + 1]
def lexL (x y : Nat × Nat) : Prop := x.1 < y.1 ∨ (x.1 = y.1 ∧ x.2 < y.2)

theorem instCom_in {T : List (List RowD)} {p q : Nat} (hp : p < T.length) (hq : q < T[p].length) : instCom T p q = (T[p][q].st == 3) := by
  unfold instCom
  rw [List.getElem?_eq_getElem hp, Option.getD_some, List.getElem?_eq_getElem hq]
theorem instCom_lt {T : List (List RowD)} {p q : Nat} (h : instCom T p q = true) : ∃ (hp : p < T.length) (hq : q < T[p].length), T[p][q].st = 3 := by
  by_cases hp : p < T.length
  · by_cases hq : q < T[p].length
    · refine ⟨hp, hq, ?_⟩
      rw [instCom_in hp hq] at h
      simpa using h
    · unfold instCom at h
      rw [List.getElem?_eq_getElem hp, Option.getD_some, List.getElem?_eq_none (by omega)] at h
      cases h
  · unfold instCom at h
    rw [show T[p]? = none from List.getElem?_eq_none (by omega)] at h
    simp at h
theorem mem_insts {T : List (List RowD)} {x : Nat × Nat} : x ∈ insts T ↔ instCom T x.1 x.2 = true := by
  unfold insts instsTo instsAt
  constructor
  · intro h
    obtain ⟨p, hp, h⟩ := List.mem_flatMap.1 h
    obtain ⟨q, hq, rfl⟩ := List.mem_map.1 h
    exact (List.mem_filter.1 hq).2
  · intro h
    obtain ⟨hp, hq, hs⟩ := instCom_lt h
    refine List.mem_flatMap.2 ⟨x.1, List.mem_range.2 hp, List.mem_map.2 ⟨x.2, List.mem_filter.2 ⟨List.mem_range.2 ?_, h⟩, rfl⟩⟩
    rw [List.getElem?_eq_getElem hp]
    exact hq
theorem comAt_inst (T : List (List RowD)) (p i : Nat) : comAt p (T[p]?.getD []) i = if instCom T p i then [pairOf (p, i)] else [] := by
  unfold comAt instCom pairOf
  cases h : (T[p]?.getD [])[i]? with
  | none => rfl
  | some r => simp
theorem comTo_insts (T : List (List RowD)) (p m : Nat) : comTo p (T[p]?.getD []) m = ((List.range m).filter (instCom T p)).map fun q => pairOf (p, q) := by
  induction m with
  | zero => simp [comTo]
  | succ m ih =>
    rw [comTo_succ, ih, comAt_inst, List.range_succ, List.filter_append, List.map_append]
    congr 1
    cases h : instCom T p m <;> simp [h]
theorem allTo_insts (T : List (List RowD)) (k : Nat) : allTo T k = (instsTo T k).map pairOf := by
  unfold allTo instsTo
  rw [List.map_flatMap]
  congr 1
  funext p
  unfold instsAt
  rw [comTo_insts, List.map_map]
  rfl
theorem instsTo_lex (T : List (List RowD)) (k : Nat) : (instsTo T k).Pairwise lexL := by
  unfold instsTo
  induction k with
  | zero => simp
  | succ k ih =>
    rw [List.range_succ, List.flatMap_append]
    rw [List.pairwise_append]
    refine ⟨ih, ?_, ?_⟩
    · simp only [List.flatMap_cons, List.flatMap_nil, List.append_nil]
      unfold instsAt
      rw [List.pairwise_map]
      exact (List.pairwise_lt_range.filter _).imp fun h => .inr ⟨rfl, h⟩
    · intro a ha b hb
      obtain ⟨p, hp, ha⟩ := List.mem_flatMap.1 ha
      obtain ⟨q, _, rfl⟩ := List.mem_map.1 ha
      simp only [List.flatMap_cons, List.flatMap_nil, List.append_nil] at hb
      obtain ⟨q', _, rfl⟩ := List.mem_map.1 hb
      exact .inl (List.mem_range.1 hp)
theorem insts_lex (T : List (List RowD)) : (insts T).Pairwise lexL := instsTo_lex T _

/-- The last of a replica's instances on which a row hangs. -/
def depI (r : RowD) (p : Nat) : Int := r.l[p]?.getD 0
/-- Two rows interfere, and neither hangs on the other. -/
def cfl (n : Int) (T : List (List RowD)) (x y : Nat × Nat) : Bool :=
  interB (rowOf n T x.1 x.2).k (rowOf n T x.1 x.2).f (rowOf n T x.1 x.2).t (rowOf n T y.1 y.2).k (rowOf n T y.1 y.2).f (rowOf n T y.1 y.2).t &&
    (decide (depI (rowOf n T x.1 x.2) y.1 < (y.2 : Int) + 1) && decide (depI (rowOf n T y.1 y.2) x.1 < (x.2 : Int) + 1))
theorem interB_comm (k f t k' f' t' : Int) : interB k f t k' f' t' = interB k' f' t' k f t := by
  have h : ∀ l r : List Int, interL l r = true → interL r l = true := fun l r h => by
    unfold interL at h ⊢
    obtain ⟨x, hx, hr⟩ := List.any_eq_true.1 h
    exact List.any_eq_true.2 ⟨x, by simpa [hasI] using hr, by simpa [hasI] using hx⟩
  unfold interB
  rw [Bool.eq_iff_iff]
  exact ⟨h _ _, h _ _⟩
theorem cfl_comm (n : Int) (T : List (List RowD)) (x y : Nat × Nat) : cfl n T x y = cfl n T y x := by
  unfold cfl
  rw [interB_comm]
  congr 1
  exact Bool.and_comm _ _
/-- Of any two settled instances that interfere one hangs on the other. -/
def holdB (n : Int) (T : List (List RowD)) : Bool := (insts T).all fun x => (insts T).all fun y => decide (x = y) || !cfl n T x y
theorem holdB_no {n : Int} {T : List (List RowD)} {x y : Nat × Nat} (hx : x ∈ insts T) (hy : y ∈ insts T) (hne : x ≠ y) (h : cfl n T x y = true) : holdB n T = false := by
  unfold holdB
  rw [List.all_eq_false]
  refine ⟨x, hx, ?_⟩
  simp only [Bool.not_eq_true]
  rw [List.all_eq_false]
  exact ⟨y, hy, by simp [hne, h]⟩
theorem holdB_yes {n : Int} {T : List (List RowD)} (h : ∀ x ∈ insts T, ∀ y ∈ insts T, x ≠ y → cfl n T x y = false) : holdB n T = true := by
  unfold holdB
  rw [List.all_eq_true]
  intro x hx
  rw [List.all_eq_true]
  intro y hy
  by_cases e : x = y
  · simp [e]
  · simp [h x hx y hy e]
/-- .. by their places in the list. -/
theorem holdB_all {n : Int} {T : List (List RowD)} (h : ∀ a b (ha : a < (insts T).length) (hb : b < a), cfl n T ((insts T)[b]) ((insts T)[a]) = false) : holdB n T = true := by
  refine holdB_yes fun x hx y hy hne => ?_
  obtain ⟨a, ha, rfl⟩ := List.getElem_of_mem hx
  obtain ⟨b, hb, rfl⟩ := List.getElem_of_mem hy
  rcases Nat.lt_trichotomy a b with hl | rfl | hl
  · exact h b a hb hl
  · exact absurd rfl hne
  · rw [cfl_comm]; exact h a b ha hl
theorem insts_ne {T : List (List RowD)} {a b : Nat} (ha : a < (insts T).length) (hb : b < a) : (insts T)[b] ≠ (insts T)[a] := by
  have h := List.pairwise_iff_getElem.1 (insts_lex T) b a (by omega) ha hb
  intro e
  rw [e] at h
  unfold lexL at h
  omega

end Go.Proofs.YtjkmhphnefpdoaaGreat

namespace Go.Proofs.YtjkmhphnefpdoaaGreat
open Go.RowKit Go.Maps
set_option linter.unusedVariables false

theorem wf_small {x : Int} (h0 : 0 ≤ x) (h1 : x ≤ 1048577) : wf64 x := by
  exact WalkArith.wf_i64 (by omega)
/-! ### A table, its lists named -/
def RowsAt (w : World) (x : Value) (R : List RowD) (V : Nat → Value) : Prop :=
  ∃ ao cap, x = .slice ao R.length cap ∧ R.length ≤ maxLen ∧ (R.length ≤ cap ∧ cap ≤ maxLen ∧ (ao = none → cap = 0)) ∧
    (0 < R.length → ∃ b off, ao = some ⟨b, off, none⟩ ∧ ∀ j (h : j < R.length), RowIn w b (off + j * 10) R[j] (V j) ∧ Ints w (V j) R[j].l)
def TabAt (w : World) (u : Value) (T : List (List RowD)) (U : Nat → Nat → Value) : Prop :=
  ∃ ao cap, u = .slice ao T.length cap ∧ T.length ≤ maxLen ∧ (T.length ≤ cap ∧ cap ≤ maxLen ∧ (ao = none → cap = 0)) ∧
    (0 < T.length → ∃ b off, ao = some ⟨b, off, none⟩ ∧ ∀ j (h : j < T.length), ∃ x, w.cell? ⟨b, off + j, none⟩ = some x ∧ RowsAt w x T[j] (U j))
theorem RowsAt.ext {w w' : World} {x : Value} {R : List RowD} {V : Nat → Value} (h : RowsAt w x R V) (e : Ext w w') : RowsAt w' x R V := by
  obtain ⟨ao, cap, hv, hm, hcap, hc⟩ := h
  refine ⟨ao, cap, hv, hm, hcap, fun hp => ?_⟩
  obtain ⟨b, off, ha, hc⟩ := hc hp
  exact ⟨b, off, ha, fun j hj => ⟨(hc j hj).1.ext e, (hc j hj).2.ext e⟩⟩
theorem TabAt.ext {w w' : World} {u : Value} {T : List (List RowD)} {U : Nat → Nat → Value} (h : TabAt w u T U) (e : Ext w w') : TabAt w' u T U := by
  obtain ⟨ao, cap, hv, hm, hcap, hc⟩ := h
  refine ⟨ao, cap, hv, hm, hcap, fun hp => ?_⟩
  obtain ⟨b, off, ha, hc⟩ := hc hp
  refine ⟨b, off, ha, fun j hj => ?_⟩
  obtain ⟨x, hx, hr⟩ := hc j hj
  exact ⟨x, e.cell hx, hr.ext e⟩
theorem rowsAt_of {w : World} {x : Value} {R : List RowD} (h : Rowz w x R) : ∃ V, RowsAt w x R V := by
  obtain ⟨ao, cap, hv, hm, hcap, hc⟩ := h
  by_cases hp : 0 < R.length
  · obtain ⟨b, off, ha, hc⟩ := hc hp
    refine ⟨fun j => if h : j < R.length then Classical.choose (hc j h) else .bool false, ao, cap, hv, hm, hcap, fun _ => ⟨b, off, ha, fun j hj => ?_⟩⟩
    have := Classical.choose_spec (hc j hj)
    simp only [hj, dif_pos]
    exact this
  · exact ⟨fun _ => .bool false, ao, cap, hv, hm, hcap, fun h => absurd h hp⟩
theorem tabAt_of {w : World} {u : Value} {T : List (List RowD)} (h : Rowzz w u T) : ∃ U, TabAt w u T U := by
  obtain ⟨ao, cap, hv, hm, hcap, hc⟩ := h
  by_cases hp : 0 < T.length
  · obtain ⟨b, off, ha, hc⟩ := hc hp
    have hc' : ∀ j (h : j < T.length), ∃ V : Nat → Value, ∃ x, w.cell? ⟨b, off + j, none⟩ = some x ∧ RowsAt w x T[j] V := fun j hj => by
      obtain ⟨x, hx, hr⟩ := hc j hj
      obtain ⟨V, hV⟩ := rowsAt_of hr
      exact ⟨V, x, hx, hV⟩
    refine ⟨fun j => if h : j < T.length then Classical.choose (hc' j h) else fun _ => .bool false, ao, cap, hv, hm, hcap, fun _ => ⟨b, off, ha, fun j hj => ?_⟩⟩
    have := Classical.choose_spec (hc' j hj)
    simp only [hj, dif_pos]
    exact this
  · exact ⟨fun _ _ => .bool false, ao, cap, hv, hm, hcap, fun h => absurd h hp⟩

/-- A row as a value. -/
def rowV (r : RowD) (u : Value) : Value := .agg #[.int .i64 r.b, .int .i64 r.v, .int .i64 r.st, .int .i64 r.k, .int .i64 r.i, .int .i64 r.f, .int .i64 r.t, .int .i64 r.a, .int .i64 r.s, u]
def rowF (n : Int) (T : List (List RowD)) (U : Nat → Nat → Value) (p q : Nat) : Value := rowV (rowOf n T p q) (U p q)
/-- Is an instance in a table's lists? -/
def inT (T : List (List RowD)) (p q : Nat) : Bool := decide (q < (T[p]?.getD []).length)
theorem inT_of {T : List (List RowD)} {p q : Nat} (h : inT T p q = true) : ∃ (hp : p < T.length), q < T[p].length := by
  unfold inT at h
  have h' := of_decide_eq_true h
  by_cases hp : p < T.length
  · rw [List.getElem?_eq_getElem hp] at h'
    exact ⟨hp, h'⟩
  · rw [List.getElem?_eq_none (by omega)] at h'
    simp at h'
theorem inT_mk {T : List (List RowD)} {p q : Nat} (hp : p < T.length) (hq : q < T[p].length) : inT T p q = true := by
  unfold inT
  rw [List.getElem?_eq_getElem hp]
  exact decide_eq_true hq
/-- The lists of all rows read. -/
def Lists (w : World) (n : Int) (T : List (List RowD)) (U : Nat → Nat → Value) : Prop := ∀ p q, inT T p q = true → Ints w (U p q) (rowOf n T p q).l
theorem Lists.ext {w w' : World} {n : Int} {T : List (List RowD)} {U : Nat → Nat → Value} (h : Lists w n T U) (e : Ext w w') : Lists w' n T U := fun p q hi => (h p q hi).ext e
theorem TabAt.lists {w : World} {u : Value} {T : List (List RowD)} {U : Nat → Nat → Value} (n : Int) (h : TabAt w u T U) : Lists w n T U := by
  intro p q hi
  obtain ⟨hp, hq⟩ := inT_of hi
  obtain ⟨_, _, _, _, _, hc⟩ := h
  obtain ⟨b, off, _, hc⟩ := hc (by omega)
  obtain ⟨x, _, hr⟩ := hc p hp
  obtain ⟨_, _, _, _, _, hr⟩ := hr
  obtain ⟨b', off', _, hr⟩ := hr (by omega)
  rw [rowOf_in hp hq]
  exact (hr q hq).2

/-! ### A map that holds values -/
/-- How an element reads here: as itself. -/
def asIs (v : Value) : Option (DataW Value × List MemPlace) := some (.held v, [])

/-- The map holds just the instances of S, each with its value. -/
structure MapOf (D : DataW Value) (S : Nat → Nat → Bool) (f : Nat → Nat → Value) : Prop where
  isMap : Maps.IsMap D
  low : ∀ p q, S p q = true → p ≤ 1048576 ∧ q ≤ 1048576
  has : ∀ p q, S p q = true → Maps.has D (kl p ((q : Int) + 1)) = true
  val : ∀ p q, S p q = true → ∀ z, D.atKey (kl p ((q : Int) + 1)) z = .held (f p q)
  keys : ∀ l, Maps.has D l = true → ∃ p q : Nat, l = kl (p : Int) ((q : Int) + 1) ∧ S p q = true
theorem MapOf.empty (f : Nat → Nat → Value) : MapOf (.map []) (fun _ _ => false) f :=
  ⟨⟨_, rfl⟩, (fun _ _ h => by cases h), (fun _ _ h => by cases h), (fun _ _ h => by cases h), (fun l h => by cases h)⟩
theorem MapOf.congr {D : DataW Value} {S S' : Nat → Nat → Bool} {f f' : Nat → Nat → Value} (h : MapOf D S f) (hs : ∀ p q, S' p q = S p q) (hf : ∀ p q, S p q = true → f' p q = f p q) : MapOf D S' f' :=
  ⟨h.isMap, fun p q e => h.low p q (by rw [← hs]; exact e), fun p q e => h.has p q (by rw [← hs]; exact e), fun p q e z => by rw [hs] at e; rw [hf p q e]; exact h.val p q e z, fun l hl => by
    obtain ⟨p, q, e, hS⟩ := h.keys l hl
    exact ⟨p, q, e, by rw [hs]; exact hS⟩⟩
theorem kl_ne {p q p' q' : Nat} (h1 : p ≤ 1048576 ∧ q ≤ 1048576) (h2 : p' ≤ 1048576 ∧ q' ≤ 1048576) (h : ¬ (p = p' ∧ q = q')) : kl (p : Int) ((q : Int) + 1) ≠ kl (p' : Int) ((q' : Int) + 1) := by
  intro e
  obtain ⟨a, b⟩ := kl_inj (wf_small (by omega) (by omega)) (wf_small (by omega) (by omega)) (wf_small (by omega) (by omega)) (wf_small (by omega) (by omega)) e
  omega
theorem MapOf.put {D : DataW Value} {S : Nat → Nat → Bool} {f : Nat → Nat → Value} (h : MapOf D S f) {p q : Nat} (hl : p ≤ 1048576 ∧ q ≤ 1048576) {v : Value} (hv : f p q = v) :
    MapOf (D.put (kl p ((q : Int) + 1)) (.held v)) (fun p' q' => S p' q' || (decide (p' = p) && decide (q' = q))) f := by
  have hk : WideAt.IsKeyLit (kl p ((q : Int) + 1)) := instKeyed.key (keyOf_inst (wf_small (by omega) (by omega)) (wf_small (by omega) (by omega)))
  have hS : ∀ p' q', (S p' q' || (decide (p' = p) && decide (q' = q))) = true → (p' = p ∧ q' = q) ∨ S p' q' = true := fun p' q' hs => by
    rcases Bool.or_eq_true_iff.1 hs with hs | hs
    · exact .inr hs
    · simp at hs; exact .inl hs
  refine ⟨h.isMap.put _ _, fun p' q' hs => ?_, fun p' q' hs => ?_, fun p' q' hs z => ?_, fun l hl' => ?_⟩
  · rcases hS p' q' hs with ⟨rfl, rfl⟩ | hs
    · exact hl
    · exact h.low p' q' hs
  · by_cases e : p' = p ∧ q' = q
    · obtain ⟨rfl, rfl⟩ := e
      exact Maps.has_put_same h.isMap hk _
    · have hs' := (hS p' q' hs).resolve_left e
      rw [Maps.has_put_other (kl_ne (h.low _ _ hs') hl e)]
      exact h.has p' q' hs'
  · by_cases e : p' = p ∧ q' = q
    · obtain ⟨rfl, rfl⟩ := e
      rw [Maps.atKey_put_same h.isMap hk, hv]
    · have hs' := (hS p' q' hs).resolve_left e
      rw [Maps.atKey_put_other (kl_ne (h.low _ _ hs') hl e)]
      exact h.val p' q' hs' z
  · by_cases e : l = kl p ((q : Int) + 1)
    · refine ⟨p, q, e, ?_⟩
      simp
    · rw [Maps.has_put_other e] at hl'
      obtain ⟨p', q', e', hs⟩ := h.keys l hl'
      refine ⟨p', q', e', ?_⟩
      simp [hs]
theorem MapOf.del {D : DataW Value} {S : Nat → Nat → Bool} {f : Nat → Nat → Value} (h : MapOf D S f) {p q : Nat} (hl : p ≤ 1048576 ∧ q ≤ 1048576) :
    MapOf (D.del (kl p ((q : Int) + 1))) (fun p' q' => S p' q' && !(decide (p' = p) && decide (q' = q))) f := by
  have hS : ∀ p' q', (S p' q' && !(decide (p' = p) && decide (q' = q))) = true → S p' q' = true ∧ ¬ (p' = p ∧ q' = q) := fun p' q' hs => by
    simp at hs
    exact ⟨hs.1, by omega⟩
  refine ⟨h.isMap.del _, fun p' q' hs => h.low p' q' (hS p' q' hs).1, fun p' q' hs => ?_, fun p' q' hs z => ?_, fun l hl' => ?_⟩
  · obtain ⟨hs, e⟩ := hS p' q' hs
    rw [Maps.has_del_other (kl_ne (h.low _ _ hs) hl e)]
    exact h.has p' q' hs
  · obtain ⟨hs, e⟩ := hS p' q' hs
    rw [Maps.atKey_del_other (kl_ne (h.low _ _ hs) hl e)]
    exact h.val p' q' hs z
  · by_cases e : l = kl p ((q : Int) + 1)
    · subst e
      rw [Maps.has_del_same] at hl'
      cases hl'
    · rw [Maps.has_del_other e] at hl'
      obtain ⟨p', q', e', hs⟩ := h.keys l hl'
      refine ⟨p', q', e', ?_⟩
      simp only [hs, Bool.true_and, Bool.not_eq_true']
      by_cases e2 : p' = p ∧ q' = q
      · obtain ⟨rfl, rfl⟩ := e2
        exact absurd e' e
      · simpa using e2

/-! ### kept -/
theorem Ext.grownNone {w w' : World} (e : Ext w w') : w.grownBy w' none := ⟨e.os, e.tape, e.output, e.size, fun k hk _ => Below.block e k hk⟩
abbrev RowMap (w : World) (b n : Nat) (D : DataW Value) : Prop := w.ownsMap Tryz.prog 130 asIs b n D
abbrev RowRange (w : World) (b r n : Nat) (D : DataW Value) (left : Lit → Bool) (cnt : Nat) : Prop := w.ranges Tryz.prog 130 asIs b r n D left cnt
theorem RowMap.ext {w w' : World} {b n : Nat} {D : DataW Value} (h : RowMap w b n D) (e : Ext w w') : RowMap w' b n D := h.kept e.grownNone (by simp)
theorem RowRange.ext {w w' : World} {b r n : Nat} {D : DataW Value} {left : Lit → Bool} {cnt : Nat} (h : RowRange w b r n D left cnt) (e : Ext w w') : RowRange w' b r n D left cnt := h.kept e.grownNone (by simp) (by simp)

/-- THE STEP of a range over such a map. -/
theorem wpList_next_inst (w : World) {ops : Array Oper} {rest : List Oper} {o : Oper} {a : Act} {Q : Exit → Act → World → Prop} (hg : o.guard = none) (it : Operand) (hop : o.op = Op.next it false)
    (b r n : Nat) (D : DataW Value) (left : Lit → Bool) (cnt : Nat) (S : Nat → Nat → Bool) (f : Nat → Nat → Value)
    (hit : a.eval it = .pointer (some ⟨r, 0, none⟩)) (h : RowRange w b r n D left cnt) (hM : MapOf D S f)
    (hDone : (∀ l, left l = false) → wpList Tryz.prog ops Q rest (a.put o.dst (.tuple #[.bool false])) w)
    (hMore : ∀ (p q : Nat) (w' : World) (cnt' : Nat), S p q = true → left (kl p ((q : Int) + 1)) = true → RowRange w' b r n D (fun z => left z && !z.sameKey (kl p ((q : Int) + 1))) cnt' → cnt' < cnt →
      w.grownBy w' (some r) → w'.heap.size = w.heap.size → (Instr.entry (.pointer (some ⟨r, 0, none⟩))).run Tryz.prog w' = .ok (.tuple #[.agg #[.int .i64 p, .int .i64 ((q : Int) + 1)], f p q]) w' →
        wpList Tryz.prog ops Q rest (a.put o.dst (.tuple #[.bool true, .agg #[.int .i64 p, .int .i64 ((q : Int) + 1)], f p q])) w') :
    wpList Tryz.prog ops Q (o :: rest) a w := by
  refine wpList_next_ranges w hg it hop 130 instKeyed asIs (fun x : Int × Int => instV x.1 x.2) (fun v : Value => v) (fun key l hk => ?_) (fun v y _ => ⟨v, rfl⟩) b r n D left cnt hit h (fun _ hl => hDone hl) ?_
  · obtain ⟨x, y, hv, _⟩ := keyOf_inst_inv hk
    exact ⟨(x, y), hv⟩
  · intro x c l y w' cnt' hkey hlk hv hat hrg hlt hgr hsz hen
    obtain ⟨x1, x2⟩ := x
    obtain ⟨a', b', e1, e2, wa, wb⟩ := keyOf_inst_inv hkey
    simp only [instV] at e1 hen
    obtain ⟨p, q, e3, hS⟩ := hM.keys l (Maps.has_true_of_atKey hat)
    have hlow := hM.low p q hS
    have hinj := kl_inj wa wb (wf_small (by omega) (by omega)) (wf_small (by omega) (by omega)) (e2.symm.trans e3)
    obtain ⟨rfl, rfl⟩ := hinj
    simp only [Value.agg.injEq, Array.mk.injEq, List.cons.injEq, Value.int.injEq, true_and, and_true] at e1
    obtain ⟨rfl, rfl⟩ := e1
    rw [e3] at hat hlk hrg
    have hc := (hM.val p q hS .nil).symm.trans (hat .nil)
    simp only [asIs, Option.some.injEq] at hv
    rw [← hv] at hc
    simp only [DataW.held.injEq] at hc
    rw [← hc] at hen ⊢
    exact hMore p q w' cnt' hS hlk hrg hlt hgr hsz hen


end Go.Proofs.YtjkmhphnefpdoaaGreat

namespace Go.Proofs.YtjkmhphnefpdoaaGreat
open Go.RowKit
set_option linter.unusedVariables false

/-- An instance's two cells. -/
def cellsI (x : Nat × Nat) : List Value := [.int .i64 x.1, .int .i64 ((x.2 : Int) + 1)]
def flatI (L : List (Nat × Nat)) : List Value := L.flatMap cellsI
theorem flatI_len (L : List (Nat × Nat)) : (flatI L).length = L.length * 2 := by
  unfold flatI
  induction L with
  | nil => rfl
  | cons x t ih => rw [List.flatMap_cons, List.length_append, ih]; simp [cellsI]; omega
theorem flatI_at {L : List (Nat × Nat)} {j : Nat} (h : j < L.length) : (flatI L)[j * 2]? = some (.int .i64 (L[j].1 : Int)) ∧ (flatI L)[j * 2 + 1]? = some (.int .i64 ((L[j].2 : Int) + 1)) := by
  induction L generalizing j with
  | nil => simp at h
  | cons x t ih =>
    unfold flatI
    rw [List.flatMap_cons]
    cases j with
    | zero => simp [cellsI]
    | succ j =>
      have h' : j < t.length := by simpa using h
      obtain ⟨i1, i2⟩ := ih h'
      unfold flatI at i1 i2
      have e1 : (j + 1) * 2 = (cellsI x).length + j * 2 := by simp [cellsI]; omega
      refine ⟨?_, ?_⟩
      · rw [e1, List.getElem?_append_right (by omega), Nat.add_sub_cancel_left, i1]
        simp
      · rw [e1, Nat.add_assoc, List.getElem?_append_right (by omega), Nat.add_sub_cancel_left, i2]
        simp

/-- v is a slice of instances of a block that was made from block number B on. -/
def FreshIn (B : Nat) (w : World) (v : Value) (L : List (Nat × Nat)) : Prop := w.ownsRow B 130 2 v L.length (flatI L)
theorem FreshIn.nil (B : Nat) (w : World) : FreshIn B w (.slice none 0 0) [] := ⟨rfl, .inl ⟨rfl, rfl⟩⟩
theorem FreshIn.ext {B : Nat} {w w' : World} {v : Value} {L : List (Nat × Nat)} (h : FreshIn B w v L) (e : Ext w w') : FreshIn B w' v L := e.ownsRow h

/-- v is a slice that reads as the instances L in w. -/
def InstsAt (w : World) (v : Value) (L : List (Nat × Nat)) : Prop :=
  ∃ ao cap, v = .slice ao L.length cap ∧ L.length ≤ maxLen ∧ (L.length ≤ cap ∧ cap ≤ maxLen ∧ (ao = none → cap = 0)) ∧
    (0 < L.length → ∃ b off, ao = some ⟨b, off, none⟩ ∧ ∀ j (h : j < L.length), w.cell? ⟨b, off + j * 2, none⟩ = some (.int .i64 (L[j].1 : Int)) ∧ w.cell? ⟨b, off + j * 2 + 1, none⟩ = some (.int .i64 ((L[j].2 : Int) + 1)))
theorem InstsAt.ext {w w' : World} {v : Value} {L : List (Nat × Nat)} (h : InstsAt w v L) (e : Ext w w') : InstsAt w' v L := by
  obtain ⟨ao, cap, hv, hm, hcap, hc⟩ := h
  refine ⟨ao, cap, hv, hm, hcap, fun hp => ?_⟩
  obtain ⟨b, off, ha, hc⟩ := hc hp
  exact ⟨b, off, ha, fun j hj => ⟨e.cell (hc j hj).1, e.cell (hc j hj).2⟩⟩
theorem FreshIn.at {B : Nat} {w : World} {v : Value} {L : List (Nat × Nat)} (h : FreshIn B w v L) : InstsAt w v L := by
  rcases h.2 with ⟨rfl, hn⟩ | ⟨g, cap, cur, rfl, hb, hg, hnc, hcm, hcs, htake⟩
  · obtain rfl : L = [] := List.eq_nil_of_length_eq_zero hn
    exact ⟨none, 0, rfl, by simp, ⟨by simp, by simp, fun _ => rfl⟩, fun h => by simp at h⟩
  · refine ⟨some ⟨g, 0, none⟩, cap, rfl, by omega, ⟨by omega, by omega, fun h => by cases h⟩, fun _ => ⟨g, 0, rfl, fun j hj => ?_⟩⟩
    have hc1 := World.ownsRow.cellAt h (j * 2) (by omega)
    have hc2 := World.ownsRow.cellAt h (j * 2 + 1) (by omega)
    obtain ⟨f1, f2⟩ := flatI_at hj
    rw [Nat.zero_add]
    exact ⟨hc1.trans f1, hc2.trans f2⟩

theorem Tryz.infoInst : (Tryz.prog.info? 130).map (fun i => (i.zero, i.size, i.bytes)) = some (some (.agg #[.int .i64 0, .int .i64 0]), 2, 16) := by kernel_rfl

end Go.Proofs.YtjkmhphnefpdoaaGreat

namespace Go.Proofs.YtjkmhphnefpdoaaGreat
open Go.RowKit
set_option linter.unusedVariables false

def cmpI (a b : Int) : Int := if a < b then -1 else if b < a then 1 else 0
def cmpL : List Int → List Int → Int
  | [], [] => 0
  | [], _ :: _ => -1
  | _ :: _, [] => 1
  | a :: s, b :: t => if cmpI a b = 0 then cmpL s t else cmpI a b

/-- A number comes back, and the world is as it was. -/
def IntSame (n : Int) (w : World) (e : Ending) (w' : World) : Prop := e = .returned (.int .i64 n) ∧ w' = w

set_option maxHeartbeats 1000000 in
theorem compareInt_any (a b : Int) (w : World) : Calls Tryz.prog 168 #[.int .i64 a, .int .i64 b] w (IntSame (cmpI a b) w) := by
  have hnan : ∀ (n : Int) (W : World), Calls Tryz.prog 193 #[.int .i64 n] W (fun e W' => e = .returned (.bool false) ∧ W' = W) := fun n W => by
    go_enter Tryz.func193, Tryz.ntmps193
    go_wp2
    go_ret
    exact ⟨rfl, rfl⟩
  go_enter Tryz.func168, Tryz.ntmps168
  by_cases h1 : a < b
  · have e : cmpI a b = -1 := by unfold cmpI; rw [if_pos h1]
    rw [e]
    clear e
    go_wp2_with fail
    refine (hnan a _).mono ?_
    rintro e w1 ⟨rfl, rfl⟩
    go_wp2_with fail
    refine (hnan b _).mono ?_
    rintro e w1 ⟨rfl, rfl⟩
    go_wp2
    go_ret
    exact ⟨rfl, rfl⟩
  · by_cases h2 : b < a
    · have e : cmpI a b = 1 := by unfold cmpI; rw [if_neg h1, if_pos h2]
      rw [e]
      clear e
      go_wp2_with fail
      refine (hnan a _).mono ?_
      rintro e w1 ⟨rfl, rfl⟩
      go_wp2_with fail
      refine (hnan b _).mono ?_
      rintro e w1 ⟨rfl, rfl⟩
      go_wp2
      go_ret
      exact ⟨rfl, rfl⟩
    · have e : cmpI a b = 0 := by unfold cmpI; rw [if_neg h1, if_neg h2]
      rw [e]
      clear e
      go_wp2_with fail
      refine (hnan a _).mono ?_
      rintro e w1 ⟨rfl, rfl⟩
      go_wp2_with fail
      refine (hnan b _).mono ?_
      rintro e w1 ⟨rfl, rfl⟩
      go_wp2
      go_ret
      exact ⟨rfl, rfl⟩

theorem cmpL_step : ∀ (l r : List Int) (k : Nat) (hk : k < l.length) (hr : k < r.length) (h : cmpL l r = cmpL (l.drop k) (r.drop k)), (cmpI l[k] r[k] = 0 → cmpL l r = cmpL (l.drop (k + 1)) (r.drop (k + 1))) ∧ (cmpI l[k] r[k] ≠ 0 → cmpL l r = cmpI l[k] r[k]) := by
  intro l r k hk hr h
  rw [List.drop_eq_getElem_cons hk, List.drop_eq_getElem_cons hr] at h
  have e4 : cmpL (l[k] :: l.drop (k + 1)) (r[k] :: r.drop (k + 1)) = if cmpI l[k] r[k] = 0 then cmpL (l.drop (k + 1)) (r.drop (k + 1)) else cmpI l[k] r[k] := by simp only [cmpL]
  rw [e4] at h
  constructor
  · intro e; rw [h, if_pos e]
  · intro e; rw [h, if_neg e]

end Go.Proofs.YtjkmhphnefpdoaaGreat

namespace Go.Proofs.YtjkmhphnefpdoaaGreat
open Go.RowKit Go.Sort
set_option linter.unusedVariables false

/-- w' is w after some draws, with new blocks. -/
def Grows (w w' : World) : Prop := ∃ (q : Nat) (os : Array Obj), w' = grow (w.drewN q) os
theorem Grows.refl (w : World) : Grows w w := ⟨0, #[], by rw [grow_empty]; rfl⟩
theorem Grows.drew {w w' : World} (h : Grows w w') : Grows w w'.drew := by
  obtain ⟨q, os, rfl⟩ := h
  exact ⟨q + 1, os, rfl⟩
theorem Grows.alloc {w w' : World} (h : Grows w w') (o : Obj) : Grows w (w'.alloc o) := by
  obtain ⟨q, os, rfl⟩ := h
  refine ⟨q, os.push o, ?_⟩
  simp [grow, World.alloc, World.drewN]
theorem Grows.trans {a b c : World} (h : Grows a b) (k : Grows b c) : Grows a c := by
  obtain ⟨q, os, rfl⟩ := h
  obtain ⟨q', os', rfl⟩ := k
  exact ⟨q + q', os ++ os', by simp [grow, World.drewN, Nat.add_assoc]⟩
theorem Grows.ext {w w' : World} (h : Grows w w') : Ext w w' := by
  obtain ⟨q, os, rfl⟩ := h
  refine ext_of_grown ⟨rfl, rfl, rfl, by simp [grow, World.drewN], fun k hk _ => ?_⟩
  exact heap_grow_old (w.drewN q) os hk

def cmpP (x y : Nat × Nat) : Int := if cmpI (x.1 : Int) (y.1 : Int) = 0 then cmpI ((x.2 : Int) + 1) ((y.2 : Int) + 1) else cmpI (x.1 : Int) (y.1 : Int)

/-- The first that is not nought. -/
def orL : List Int → Int
  | [] => 0
  | x :: t => if x = 0 then orL t else x
theorem orL_drop {l : List Int} {k : Nat} (h : k < l.length) : orL (l.drop k) = if l[k]?.getD 0 = 0 then orL (l.drop (k + 1)) else l[k]?.getD 0 := by
  rw [List.drop_eq_getElem_cons h, List.getElem?_eq_getElem h, Option.getD_some]
  rfl
set_option maxHeartbeats 1000000 in
theorem orInt_any (l : List Int) (v : Value) (w : World) (hv : Ints w v l) :
    Calls Tryz.prog 167 #[v] w (IntSame (orL l) w) := by
  obtain ⟨av, cv, rfl, hlv, _, hcv⟩ := hv
  unfold maxLen at hlv
  go_enter Tryz.func167, Tryz.ntmps167
  go_wp2
  go_loopw [8] (fun i wr => ∃ k : Nat, k ≤ l.length ∧ i = .int .i64 k ∧ Hid (orL l = orL (l.drop k)) ∧ wr = w) (fun i _ => l.length - (intOf i).toNat)
  case atStart => exact ⟨0, Nat.zero_le _, rfl, Lib.hid (by simp), rfl⟩
  case round =>
    obtain ⟨k, hk, rfl, HK, rfl⟩ := hrel
    by_cases hlt : k < l.length
    · obtain ⟨bv, ov, rfl, dv⟩ := hcv (by omega)
      have gv := dv k hlt
      have hs := orL_drop hlt
      obtain ⟨x, hx⟩ : ∃ x, x = l[k]?.getD 0 := ⟨_, rfl⟩
      rw [← hx] at gv hs
      have HS := Lib.hid hs
      clear dv hcv hx hs
      by_cases h0 : x = 0
      · subst h0
        have HN := Lib.hid (show orL l = orL (l.drop (k + 1)) by rw [HK.out, HS.out, if_pos rfl])
        have ns : ((0 : Int) != 0) = false := by simp
        go_wp2
        go_roundw
        case rel => exact ⟨k + 1, by omega, by go_num, HN, by trivial⟩
        case measure => simp [intOf]; omega
      · have HN := Lib.hid (show orL l = x by rw [HK.out, HS.out, if_neg h0])
        have ns : (x != 0) = true := by simpa using h0
        go_wp2
        go_ret
        exact ⟨by rw [HN.out]; rfl, rfl⟩
    · obtain rfl : k = l.length := by omega
      have HN := Lib.hid (show orL l = 0 by rw [HK.out, List.drop_length]; rfl)
      clear HK
      go_wp2
      go_ret
      exact ⟨by rw [HN.out]; rfl, rfl⟩
theorem orInt_two (x y : Int) (v : Value) (w : World) (hv : Ints w v [x, y]) :
    Calls Tryz.prog 167 #[v] w (IntSame (if x = 0 then y else x) w) := by
  have h := orInt_any _ _ _ hv
  have e : orL [x, y] = if x = 0 then y else x := by
    unfold orL orL orL
    by_cases hx : x = 0
    · by_cases hy : y = 0 <;> simp [hx, hy]
    · simp [hx]
  rwa [e] at h

theorem orHere (w0 : World) (a b : Int) : Calls Tryz.prog 167 #[.slice (some ⟨w0.heap.size, 0, none⟩) 2 2] (w0.alloc (.cells #[.int .i64 a, .int .i64 b] 3)).drew (IntSame (if a = 0 then b else a) (w0.alloc (.cells #[.int .i64 a, .int .i64 b] 3)).drew) := by
  have h := (fresh_lit w0 [a, b] #[.int .i64 a, .int .i64 b] w0.heap.size rfl (Nat.le_refl _) (by simp)).ints
  exact orInt_two a b _ _ (h.ext (Ext.drew (Ext.refl _)))

end Go.Proofs.YtjkmhphnefpdoaaGreat

namespace Go.Proofs.YtjkmhphnefpdoaaGreat
open Go.RowKit Go.Sort
set_option linter.unusedVariables false

def cmp2 (a b c d : Int) : Int := if cmpI a c = 0 then cmpI b d else cmpI a c
set_option maxHeartbeats 2000000 in
set_option maxRecDepth 100000 in
theorem cmpInst_any (p q p' q' : Int) (w : World) :
    Calls Tryz.prog 116 #[.agg #[.int .i64 p, .int .i64 q], .agg #[.int .i64 p', .int .i64 q']] w (fun e w' => e = .returned (.int .i64 (cmp2 p q p' q')) ∧ Grows w w') := by
  unfold cmp2
  obtain ⟨r, hr⟩ : ∃ r, r = if cmpI p p' = 0 then cmpI q q' else cmpI p p' := ⟨_, rfl⟩
  have cO : ∀ w0 : World, Calls Tryz.prog 167 #[.slice (some ⟨w0.heap.size, 0, none⟩) 2 2] (w0.alloc (.cells #[.int .i64 (cmpI p p'), .int .i64 (cmpI q q')] 3)).drew (IntSame r (w0.alloc (.cells #[.int .i64 (cmpI p p'), .int .i64 (cmpI q q')] 3)).drew) := fun w0 => by
    rw [hr]
    exact orHere w0 _ _
  have CO := Lib.hid cO
  rw [← hr]
  clear hr cO
  obtain ⟨w0, hw0⟩ : ∃ w0, w0 = (w.alloc (.cells #[.int .i64 p, .int .i64 q] 130)).alloc (.cells #[.int .i64 p', .int .i64 q'] 130) := ⟨_, rfl⟩
  have g0 : Grows w w0 := by rw [hw0]; exact (Grows.refl w).alloc _ |>.alloc _
  have c0 : w0.cell? ⟨w.heap.size, 0, none⟩ = some (.int .i64 p) := by rw [hw0]; go_simp
  have c1 : w0.cell? ⟨w.heap.size, 1, none⟩ = some (.int .i64 q) := by rw [hw0]; go_simp
  have c2 : w0.cell? ⟨w.heap.size + 1, 0, none⟩ = some (.int .i64 p') := by rw [hw0]; go_simp
  have c3 : w0.cell? ⟨w.heap.size + 1, 1, none⟩ = some (.int .i64 q') := by rw [hw0]; go_simp
  have ks : ∀ W, Grows w0 W → Grows w0 W ∧ W.cell? ⟨w.heap.size, 0, none⟩ = some (.int .i64 p) ∧ W.cell? ⟨w.heap.size, 1, none⟩ = some (.int .i64 q) ∧ W.cell? ⟨w.heap.size + 1, 0, none⟩ = some (.int .i64 p') ∧ W.cell? ⟨w.heap.size + 1, 1, none⟩ = some (.int .i64 q') := fun W h => ⟨h, h.ext.cell c0, h.ext.cell c1, h.ext.cell c2, h.ext.cell c3⟩
  clear c0 c1 c2 c3
  subst hw0
  have KS := Lib.hid ks
  have G0 := Lib.hid g0
  clear ks g0
  go_enter Tryz.func116, Tryz.ntmps116
  go_wp2_with fail
  generalize ((w.alloc (.cells #[.int .i64 p, .int .i64 q] 130)).alloc (.cells #[.int .i64 p', .int .i64 q'] 130)) = w0 at KS G0 ⊢
  go_region_held3 (fun W => Grows w0 W ∧ W.cell? ⟨w.heap.size, 0, none⟩ = some (.int .i64 p) ∧ W.cell? ⟨w.heap.size, 1, none⟩ = some (.int .i64 q) ∧ W.cell? ⟨w.heap.size + 1, 0, none⟩ = some (.int .i64 p') ∧ W.cell? ⟨w.heap.size + 1, 1, none⟩ = some (.int .i64 q')) (first | (with_reducible exact KS.out _ (Grows.drew (Grows.refl _))) | (with_reducible exact KS.out _ (Grows.drew (Grows.alloc (Grows.refl _) _))) | (with_reducible exact KS.out _ (Grows.alloc (Grows.drew (Grows.refl _)) _)) | (trace_state; fail)) (first | (go_at_call 168; refine (compareInt_any _ _ _).mono ?_; rintro e W3 ⟨rfl, rfl⟩) | (go_at_call 167; refine (CO.out _).mono ?_; rintro e W3 ⟨rfl, rfl⟩))
  all_goals
    go_wp2
    go_ret
    exact ⟨rfl, G0.out.trans (Grows.drew (Grows.alloc (Grows.refl _) _))⟩
end Go.Proofs.YtjkmhphnefpdoaaGreat
