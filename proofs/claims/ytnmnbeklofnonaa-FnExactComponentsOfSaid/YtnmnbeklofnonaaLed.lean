/- A search by a stack of points: which points one leads to, as marks. No program text is named here. -/
import Derived.Test.YtnmnbeklofnonaaGraph
namespace Go.Proofs.Ytnmnbeklofnonaa
open Go.RowKit
set_option linter.unusedVariables false

/-- The point is marked. -/
def onB (bs : List Bool) (x : Int) : Prop := ∃ n : Nat, x = (n : Int) ∧ bs[n]? = some true
theorem onB_set {bs : List Bool} {m : Nat} (hm : m < bs.length) (x : Int) : onB (bs.set m true) x ↔ onB bs x ∨ x = (m : Int) := by
  unfold onB
  constructor
  · rintro ⟨n, rfl, h⟩
    rw [List.getElem?_set] at h
    by_cases e : m = n
    · exact .inr (by omega)
    · rw [if_neg e] at h
      exact .inl ⟨n, rfl, h⟩
  · rintro (⟨n, rfl, h⟩ | rfl)
    · refine ⟨n, rfl, ?_⟩
      rw [List.getElem?_set]
      by_cases e : m = n
      · rw [if_pos e, if_pos hm]
      · rw [if_neg e]; exact h
    · exact ⟨m, rfl, by rw [List.getElem?_set, if_pos rfl, if_pos hm]⟩

/-- bs marks points that k leads to; what is marked and stands not in left has all that it leads to at once marked. -/
structure Led (g : List (List Int)) (k : Int) (bs : List Bool) (left : List Int) : Prop where
  len : bs.length = 40
  first : onB bs k
  reach : ∀ x, onB bs x → Reach g k x
  stack : ∀ x ∈ left, onB bs x
  shut : ∀ x, onB bs x → x ∉ left → ∀ c ∈ rowG g x, onB bs c
/-- The same where the point p is looked at, the first j that it leads to being marked. -/
structure LedAt (g : List (List Int)) (k p : Int) (j : Nat) (bs : List Bool) (left : List Int) : Prop where
  len : bs.length = 40
  first : onB bs k
  reach : ∀ x, onB bs x → Reach g k x
  stack : ∀ x ∈ left, onB bs x
  here : onB bs p
  shut : ∀ x, onB bs x → x ≠ p → x ∉ left → ∀ c ∈ rowG g x, onB bs c
  row : ∀ c ∈ (rowG g p).take j, onB bs c

def noneB : List Bool := List.replicate 40 false
theorem noneB_no (x : Int) : ¬ onB noneB x := by
  rintro ⟨n, rfl, h⟩
  unfold noneB at h
  rw [List.getElem?_replicate] at h
  split at h <;> simp at h
theorem Led.start (g : List (List Int)) (k : Nat) (hk : k < 40) : Led g k (noneB.set k true) [(k : Int)] := by
  have hl : k < noneB.length := by simp [noneB]; exact hk
  have hs := onB_set hl
  refine ⟨by simp [noneB], (hs _).2 (.inr rfl), fun x hx => ?_, fun x hx => ?_, fun x hx hn => ?_⟩
  · rcases (hs x).1 hx with h | rfl
    · exact absurd h (noneB_no x)
    · exact .self
  · obtain rfl : x = k := by simpa using hx
    exact (hs _).2 (.inr rfl)
  · rcases (hs x).1 hx with h | rfl
    · exact absurd h (noneB_no x)
    · exact absurd (by simp) hn
theorem Led.pop {g : List (List Int)} {k p : Int} {bs : List Bool} {left : List Int} (h : Led g k bs (left ++ [p])) : LedAt g k p 0 bs left :=
  ⟨h.len, h.first, h.reach, fun x hx => h.stack x (by simp [hx]), h.stack p (by simp), fun x hx hp hn => h.shut x hx (by simp [hp, hn]), by simp⟩
theorem LedAt.known {g : List (List Int)} {k p : Int} {j : Nat} {bs : List Bool} {left : List Int} (h : LedAt g k p j bs left) (hj : j < (rowG g p).length) (hm : onB bs (rowG g p)[j]) : LedAt g k p (j + 1) bs left := by
  refine ⟨h.len, h.first, h.reach, h.stack, h.here, h.shut, fun c hc => ?_⟩
  rw [List.take_add_one, List.getElem?_eq_getElem hj] at hc
  rcases List.mem_append.1 hc with hc | hc
  · exact h.row c hc
  · obtain rfl : c = (rowG g p)[j] := by simpa using hc
    exact hm
theorem LedAt.add {g : List (List Int)} {k p : Int} {j m : Nat} {bs : List Bool} {left : List Int} (h : LedAt g k p j bs left) (hj : j < (rowG g p).length) (hn : (rowG g p)[j] = (m : Int)) (hm : m < 40) : LedAt g k p (j + 1) (bs.set m true) (left ++ [(m : Int)]) := by
  have hs := onB_set (bs := bs) (m := m) (by rw [h.len]; exact hm)
  refine ⟨by simp [h.len], (hs _).2 (.inl h.first), fun x hx => ?_, fun x hx => ?_, (hs _).2 (.inl h.here), fun x hx hp hno => ?_, fun c hc => ?_⟩
  · rcases (hs x).1 hx with e | rfl
    · exact h.reach x e
    · exact (h.reach p h.here).step (by rw [← hn]; exact List.getElem_mem hj)
  · rcases List.mem_append.1 hx with e | e
    · exact (hs x).2 (.inl (h.stack x e))
    · exact (hs x).2 (.inr (by simpa using e))
  · rcases (hs x).1 hx with e | rfl
    · exact fun c hc => (hs c).2 (.inl (h.shut x e hp (fun q => hno (List.mem_append_left _ q)) c hc))
    · exact absurd (by simp) hno
  · rw [List.take_add_one, List.getElem?_eq_getElem hj] at hc
    rcases List.mem_append.1 hc with hc | hc
    · exact (hs c).2 (.inl (h.row c hc))
    · obtain rfl : c = (rowG g p)[j] := by simpa using hc
      exact (hs _).2 (.inr hn)
theorem LedAt.next {g : List (List Int)} {k p : Int} {j : Nat} {bs : List Bool} {left : List Int} (h : LedAt g k p j bs left) (hj : (rowG g p).length ≤ j) : Led g k bs left := by
  refine ⟨h.len, h.first, h.reach, h.stack, fun x hx hn c hc => ?_⟩
  by_cases e : x = p
  · subst e
    exact h.row c (by rw [List.take_of_length_le hj]; exact hc)
  · exact h.shut x hx e hn c hc
theorem Led.done {g : List (List Int)} {k : Int} {bs : List Bool} (h : Led g k bs []) (x : Int) : onB bs x ↔ Reach g k x := by
  refine ⟨h.reach x, fun r => ?_⟩
  induction r with
  | self => exact h.first
  | step _ hc ih => exact h.shut _ ih (by simp) _ hc

/-- How many steps the search can still take. -/
def roomB (bs : List Bool) (left : List Int) : Nat := bs.count false + left.length
theorem roomB_start (k : Nat) (hk : k < 40) : roomB (noneB.set k true) [(k : Int)] = 40 := by
  have hl : k < noneB.length := by simp [noneB]; exact hk
  have e : noneB[k] = false := by
    unfold noneB
    exact List.getElem_replicate _
  have c : noneB.count false = 40 := by decide
  unfold roomB
  rw [List.count_set hl, e, c]
  simp
theorem roomB_pop (bs : List Bool) (left : List Int) (p : Int) : roomB bs (left ++ [p]) = roomB bs left + 1 := by
  unfold roomB
  simp
  omega
theorem roomB_add {bs : List Bool} {left : List Int} {m : Nat} (n : Int) (h : bs[m]? = some false) : roomB (bs.set m true) (left ++ [n]) = roomB bs left := by
  obtain ⟨hm, he⟩ := List.getElem?_eq_some_iff.1 h
  unfold roomB
  rw [List.count_set hm, he]
  have : 0 < bs.count false := List.count_pos_iff.2 (by rw [← he]; exact List.getElem_mem hm)
  simp
  omega

open Classical in
/-- The marks of all points that k leads to. -/
noncomputable def ledL (g : List (List Int)) (k : Int) : List Bool := (List.range 40).map fun (i : Nat) => decide (Reach g k (i : Int))
open Classical in
theorem Led.all {g : List (List Int)} {k : Int} {bs : List Bool} (h : Led g k bs []) : bs = ledL g k := by
  apply List.ext_getElem?
  intro i
  unfold ledL
  by_cases hi : i < 40
  · have hb : i < bs.length := by rw [h.len]; exact hi
    rw [List.getElem?_eq_getElem hb]
    have e : ((List.range 40).map fun (i : Nat) => decide (Reach g k (i : Int)))[i]? = some (decide (Reach g k (i : Int))) := by simp [hi]
    rw [e]
    cases hc : bs[i] with
    | true => rw [decide_eq_true ((h.done _).1 ⟨i, rfl, by rw [List.getElem?_eq_getElem hb, hc]⟩)]
    | false =>
      rw [decide_eq_false (fun r => ?_)]
      obtain ⟨n, hn, hx⟩ := (h.done _).2 r
      obtain rfl : i = n := by omega
      rw [List.getElem?_eq_getElem hb, hc] at hx
      cases hx
  · rw [List.getElem?_eq_none (by rw [h.len]; omega), List.getElem?_eq_none (by simp; omega)]
theorem ledL_len (g : List (List Int)) (k : Int) : (ledL g k).length = 40 := by simp [ledL]
open Classical in
theorem ledL_get (g : List (List Int)) (k : Int) {i : Nat} (hi : i < 40) : (ledL g k)[i]? = some (decide (Reach g k (i : Int))) := by simp [ledL, hi]

open Classical in
/-- Of the first i points those that k leads to. -/
noncomputable def toldL (g : List (List Int)) (k : Int) (i : Nat) : List Int := ((List.range i).map fun (i : Nat) => (i : Int)).filter fun x => decide (Reach g k x)
open Classical in
theorem toldL_hit {g : List (List Int)} {k : Int} {i : Nat} (h : Reach g k (i : Int)) : toldL g k (i + 1) = toldL g k i ++ [(i : Int)] := by
  simp [toldL, List.range_succ, List.filter_append, h]
open Classical in
theorem toldL_miss {g : List (List Int)} {k : Int} {i : Nat} (h : ¬ Reach g k (i : Int)) : toldL g k (i + 1) = toldL g k i := by
  simp [toldL, List.range_succ, List.filter_append, h]
open Classical in
theorem toldL_len (g : List (List Int)) (k : Int) (i : Nat) : (toldL g k i).length ≤ i := by
  unfold toldL
  exact Nat.le_trans (List.length_filter_le _ _) (by simp)
open Classical in
theorem toldL_all {g : List (List Int)} (hg : rowsB g = true) (hl : g.length ≤ 40) {k : Int} (hk : 0 ≤ k ∧ k < g.length) : toldL g k 40 = reachL g k := by
  refine reachL_unique hg hk (List.Pairwise.filter _ (range_rises _)) (fun x => ?_)
  unfold toldL
  rw [List.mem_filter]
  constructor
  · rintro ⟨_, h⟩; exact of_decide_eq_true h
  · intro h
    have hx := reach_in hg hk h
    exact ⟨List.mem_map.2 ⟨x.toNat, by simp; omega, by omega⟩, decide_eq_true h⟩

end Go.Proofs.Ytnmnbeklofnonaa
