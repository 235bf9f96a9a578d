/- Graphs as lists of rising lists: which points a point leads to, as a relation and as a rising list; the state of a search in breadth. No program text is named here. -/
import Derived.Test.YtnmnbeklofnonaaWords
import Derived.Test.YtnmnbeklofnonaaPut
namespace Go.Proofs.Ytnmnbeklofnonaa
open Go.RowKit
set_option linter.unusedVariables false

/-! ### Rising lists -/
/-- Strictly rising. -/
def Rises (l : List Int) : Prop := l.Pairwise (· < ·)
instance (l : List Int) : Decidable (Rises l) := inferInstanceAs (Decidable (List.Pairwise _ _))
/-- Whether numbers are rising, within bounds. -/
def riseB (l : List Int) (lo hi : Int) : Bool := decide (Rises l) && allIn l lo hi
theorem riseB_of {l : List Int} {lo hi : Int} (h : riseB l lo hi = true) : Rises l ∧ ∀ x ∈ l, lo ≤ x ∧ x ≤ hi := by
  unfold riseB allIn inB at h
  simpa using h
theorem riseB_yes {l : List Int} {lo hi : Int} (h : Rises l) (k : ∀ x ∈ l, lo ≤ x ∧ x ≤ hi) : riseB l lo hi = true := by
  unfold riseB allIn inB
  simpa using ⟨h, k⟩

theorem take_while (p : Int → Bool) : ∀ l : List Int, l.take (l.takeWhile p).length = l.takeWhile p
  | [] => rfl
  | x :: l => by
    cases h : p x
    · simp [h]
    · simp [h, take_while p l]
theorem mem_while (p : Int → Bool) : ∀ (l : List Int) (x : Int), x ∈ l.takeWhile p → p x = true
  | [], x, h => by simp at h
  | y :: l, x, h => by
    cases hy : p y
    · simp [hy] at h
    · rw [List.takeWhile_cons, if_pos hy] at h
      rcases List.mem_cons.1 h with rfl | h
      · exact hy
      · exact mem_while p l x h
theorem mem_ahead {l : List Int} {n x : Int} (h : x ∈ l.take (ahead l n)) : x < n := by
  unfold ahead at h
  rw [take_while] at h
  have := mem_while _ _ _ h
  simpa using this
theorem ahead_le (l : List Int) (n : Int) : ahead l n ≤ l.length := (List.takeWhile_sublist _).length_le
theorem at_ahead : ∀ (l : List Int) (n x : Int), l[ahead l n]? = some x → n ≤ x
  | [], n, x, h => by simp [ahead] at h
  | y :: l, n, x, h => by
    by_cases hy : y < n
    · have e : ahead (y :: l) n = ahead l n + 1 := by simp [ahead, hy]
      rw [e, List.getElem?_cons_succ] at h
      exact at_ahead l n x h
    · have e : ahead (y :: l) n = 0 := by simp [ahead, hy]
      rw [e] at h
      simp at h
      omega

theorem putI_mem (l : List Int) (n x : Int) : x ∈ putI l n ↔ x ∈ l ∨ x = n := by
  unfold putI
  by_cases h : l[ahead l n]? = some n
  · rw [if_pos h]
    constructor
    · exact Or.inl
    · rintro (h' | rfl)
      · exact h'
      · exact List.mem_of_getElem? h
  · rw [if_neg h]
    have e := List.take_append_drop (ahead l n) l
    constructor
    · intro hx
      rcases List.mem_append.1 hx with hx | hx
      · rcases List.mem_append.1 hx with hx | hx
        · exact .inl (List.mem_of_mem_take hx)
        · exact .inr (by simpa using hx)
      · exact .inl (List.mem_of_mem_drop hx)
    · rintro (hx | rfl)
      · rw [← e] at hx
        rcases List.mem_append.1 hx with hx | hx
        · exact List.mem_append_left _ (List.mem_append_left _ hx)
        · exact List.mem_append_right _ hx
      · simp
theorem putI_len {l : List Int} {n : Int} (h : n ∉ l) : (putI l n).length = l.length + 1 := by
  unfold putI
  rw [if_neg (fun e => h (List.mem_of_getElem? e))]
  have := ahead_le l n
  simp
  omega
theorem behind_ahead {l : List Int} {n x : Int} (hl : Rises l) (h : l[ahead l n]? ≠ some n) (hx : x ∈ l.drop (ahead l n)) : n < x := by
  obtain ⟨j, hj, rfl⟩ := List.getElem_of_mem hx
  have hjl : ahead l n + j < l.length := by simp at hj; omega
  rw [List.getElem_drop]
  have h0 : ahead l n < l.length := by omega
  have h1 : n ≤ l[ahead l n] := at_ahead l n _ (List.getElem?_eq_getElem h0)
  have h2 : n ≠ l[ahead l n] := fun e => h (by rw [List.getElem?_eq_getElem h0, ← e])
  rcases Nat.eq_zero_or_pos j with rfl | hp
  · show n < l[ahead l n + 0]
    simp only [Nat.add_zero]
    omega
  · have h3 : l[ahead l n] < l[ahead l n + j] := List.pairwise_iff_getElem.1 hl _ _ h0 hjl (by omega)
    omega
theorem putI_rises {l : List Int} (n : Int) (hl : Rises l) : Rises (putI l n) := by
  unfold putI
  by_cases h : l[ahead l n]? = some n
  · rw [if_pos h]; exact hl
  · rw [if_neg h]
    unfold Rises
    rw [List.pairwise_append, List.pairwise_append]
    refine ⟨⟨List.Pairwise.sublist (List.take_sublist _ _) hl, by simp, ?_⟩, List.Pairwise.sublist (List.drop_sublist _ _) hl, ?_⟩
    · intro a ha b hb
      obtain rfl : b = n := by simpa using hb
      exact mem_ahead ha
    · intro a ha b hb
      have hb' := behind_ahead hl h hb
      rcases List.mem_append.1 ha with ha | ha
      · have := mem_ahead ha; omega
      · obtain rfl : a = n := by simpa using ha
        exact hb'

theorem rises_ext : ∀ {a b : List Int}, Rises a → Rises b → (∀ x, x ∈ a ↔ x ∈ b) → a = b
  | [], [], _, _, _ => rfl
  | [], y :: b, _, _, h => by have := (h y).2 (by simp); simp at this
  | x :: a, [], _, _, h => by have := (h x).1 (by simp); simp at this
  | x :: a, y :: b, ha, hb, h => by
    have ha' := List.pairwise_cons.1 ha
    have hb' := List.pairwise_cons.1 hb
    have hxy : x = y := by
      have h1 := (h x).1 (by simp)
      have h2 := (h y).2 (by simp)
      rcases List.mem_cons.1 h1 with e | h1
      · exact e
      · rcases List.mem_cons.1 h2 with e | h2
        · exact e.symm
        · have := hb'.1 x h1; have := ha'.1 y h2; omega
    subst hxy
    have ht : a = b := rises_ext ha'.2 hb'.2 (fun z => by
      constructor
      · intro hz
        rcases List.mem_cons.1 ((h z).1 (List.mem_cons_of_mem _ hz)) with e | k
        · have := ha'.1 z hz; omega
        · exact k
      · intro hz
        rcases List.mem_cons.1 ((h z).2 (List.mem_cons_of_mem _ hz)) with e | k
        · have := hb'.1 z hz; omega
        · exact k)
    rw [ht]
theorem rises_len : ∀ {l : List Int} (lo hi : Int), Rises l → (∀ x ∈ l, lo ≤ x ∧ x < hi) → lo ≤ hi → (l.length : Int) ≤ hi - lo
  | [], lo, hi, _, _, h => by simp; omega
  | x :: l, lo, hi, hl, hb, h => by
    have hl' := List.pairwise_cons.1 hl
    have hx := hb x (by simp)
    have := rises_len (x + 1) hi hl'.2 (fun y hy => ⟨by have := hl'.1 y hy; omega, (hb y (List.mem_cons_of_mem _ hy)).2⟩) (by omega)
    simp only [List.length_cons]
    omega

/-! ### Graphs -/
/-- The points that a point leads to at once. -/
def rowG (g : List (List Int)) (p : Int) : List Int := if 0 ≤ p then g[p.toNat]?.getD [] else []
/-- Each list rising, of points of the graph. -/
def rowsB (g : List (List Int)) : Bool := g.all fun l => riseB l 0 ((g.length : Int) - 1)
def goodG (g : List (List Int)) : Bool := rowsB g && decide (g.length ≤ 40)

inductive Reach (g : List (List Int)) (a : Int) : Int → Prop
  | self : Reach g a a
  | step {b c : Int} : Reach g a b → c ∈ rowG g b → Reach g a c

theorem Reach.trans {g : List (List Int)} {a b c : Int} (h : Reach g a b) (k : Reach g b c) : Reach g a c := by
  induction k with
  | self => exact h
  | step _ hc ih => exact ih.step hc

theorem rowG_at {g : List (List Int)} {k : Nat} (h : k < g.length) : rowG g (k : Int) = g[k] := by
  unfold rowG
  rw [if_pos (by omega), Int.toNat_natCast, List.getElem?_eq_getElem h]
  rfl
theorem row_in {g : List (List Int)} (hg : rowsB g = true) {p c : Int} (h : c ∈ rowG g p) : 0 ≤ c ∧ c < g.length := by
  unfold rowG at h
  by_cases hp : 0 ≤ p
  · rw [if_pos hp] at h
    cases e : g[p.toNat]? with
    | none => rw [e] at h; simp at h
    | some l =>
      rw [e] at h
      have hl : riseB l 0 ((g.length : Int) - 1) = true := List.all_eq_true.1 hg l (List.mem_of_getElem? e)
      have := (riseB_of hl).2 c h
      omega
  · rw [if_neg hp] at h; simp at h
theorem reach_in {g : List (List Int)} (hg : rowsB g = true) {k x : Int} (hk : 0 ≤ k ∧ k < g.length) (h : Reach g k x) : 0 ≤ x ∧ x < g.length := by
  induction h with
  | self => exact hk
  | step _ hc _ => exact row_in hg hc

open Classical in
/-- All points that a point leads to, rising. -/
noncomputable def reachL (g : List (List Int)) (k : Int) : List Int := ((List.range g.length).map fun (i : Nat) => (i : Int)).filter fun x => decide (Reach g k x)

theorem range_rises (n : Nat) : Rises ((List.range n).map fun (i : Nat) => (i : Int)) := by
  unfold Rises
  rw [List.pairwise_map]
  exact List.pairwise_lt_range.imp (fun h => by omega)
theorem reachL_rises (g : List (List Int)) (k : Int) : Rises (reachL g k) := List.Pairwise.filter _ (range_rises _)
open Classical in
theorem reachL_mem {g : List (List Int)} (hg : rowsB g = true) {k : Int} (hk : 0 ≤ k ∧ k < g.length) (x : Int) : x ∈ reachL g k ↔ Reach g k x := by
  unfold reachL
  rw [List.mem_filter]
  constructor
  · rintro ⟨_, h⟩; exact of_decide_eq_true h
  · intro h
    have hx := reach_in hg hk h
    exact ⟨List.mem_map.2 ⟨x.toNat, by simp; omega, by omega⟩, decide_eq_true h⟩
theorem reachL_unique {g : List (List Int)} (hg : rowsB g = true) {k : Int} (hk : 0 ≤ k ∧ k < g.length) {l : List Int} (hl : Rises l) (h : ∀ x, x ∈ l ↔ Reach g k x) : l = reachL g k :=
  rises_ext hl (reachL_rises g k) (fun x => (h x).trans (reachL_mem hg hk x).symm)
theorem reachL_len (g : List (List Int)) (k : Int) : (reachL g k).length ≤ g.length := by
  have := List.length_filter_le (fun x => @decide (Reach g k x) (Classical.propDecidable _)) ((List.range g.length).map fun (i : Nat) => (i : Int))
  simpa [reachL] using this

/-! ### A search in breadth -/
/-- met are the points met, all that the first i of them lead to at once among them; out are the same, rising. -/
structure Srch (g : List (List Int)) (k : Int) (i : Nat) (met out : List Int) : Prop where
  first : k ∈ met
  reach : ∀ x ∈ met, Reach g k x
  shut : ∀ (j : Nat) (p : Int), j < i → met[j]? = some p → ∀ c ∈ rowG g p, c ∈ met
  rises : Rises out
  same : ∀ x, x ∈ out ↔ x ∈ met
  len : met.length = out.length

theorem Srch.start (g : List (List Int)) (k : Int) : Srch g k 0 [k] [k] :=
  ⟨by simp, fun x hx => by obtain rfl : x = k := by simpa using hx
                           exact .self, fun j p hj => by omega, by simp [Rises], fun x => Iff.rfl, rfl⟩
/-- Of the point that is looked at, the first j that it leads to are met. -/
def SrchAt (g : List (List Int)) (k : Int) (i j : Nat) (p : Int) (met out : List Int) : Prop :=
  Srch g k i met out ∧ met[i]? = some p ∧ ∀ c ∈ (rowG g p).take j, c ∈ met
theorem Srch.look {g : List (List Int)} {k : Int} {i : Nat} {met out : List Int} (h : Srch g k i met out) (hi : i < met.length) : SrchAt g k i 0 met[i] met out :=
  ⟨h, List.getElem?_eq_getElem hi, by simp⟩
theorem SrchAt.known {g : List (List Int)} {k p : Int} {i j : Nat} {met out : List Int} (h : SrchAt g k i j p met out) (hj : j < (rowG g p).length) (hm : (rowG g p)[j] ∈ met) : SrchAt g k i (j + 1) p met out := by
  refine ⟨h.1, h.2.1, fun c hc => ?_⟩
  rw [List.take_add_one, List.getElem?_eq_getElem hj] at hc
  rcases List.mem_append.1 hc with hc | hc
  · exact h.2.2 c hc
  · obtain rfl : c = (rowG g p)[j] := by simpa using hc
    exact hm
theorem SrchAt.add {g : List (List Int)} {k p : Int} {i j : Nat} {met out : List Int} (h : SrchAt g k i j p met out) (hj : j < (rowG g p).length) (hm : (rowG g p)[j] ∉ met) : SrchAt g k i (j + 1) p (met ++ [(rowG g p)[j]]) (putI out (rowG g p)[j]) := by
  obtain ⟨h, hp, hs⟩ := h
  have hi : i < met.length := (List.getElem?_eq_some_iff.1 hp).1
  refine ⟨⟨List.mem_append_left _ h.first, ?_, ?_, putI_rises _ h.rises, ?_, ?_⟩, ?_, ?_⟩
  · intro x hx
    rcases List.mem_append.1 hx with hx | hx
    · exact h.reach x hx
    · obtain rfl : x = (rowG g p)[j] := by simpa using hx
      exact (h.reach p (List.mem_of_getElem? hp)).step (List.getElem_mem hj)
  · intro j' q hj' hq c hc
    rw [List.getElem?_append_left (by omega)] at hq
    exact List.mem_append_left _ (h.shut j' q hj' hq c hc)
  · intro x
    rw [putI_mem, List.mem_append, h.same x]
    simp
  · rw [List.length_append, putI_len (fun e => hm ((h.same _).1 e)), h.len]
    rfl
  · rw [List.getElem?_append_left hi]; exact hp
  · intro c hc
    rw [List.take_add_one, List.getElem?_eq_getElem hj] at hc
    rcases List.mem_append.1 hc with hc | hc
    · exact List.mem_append_left _ (hs c hc)
    · exact List.mem_append_right _ (by simpa using hc)
theorem SrchAt.next {g : List (List Int)} {k p : Int} {i j : Nat} {met out : List Int} (h : SrchAt g k i j p met out) (hj : (rowG g p).length ≤ j) : Srch g k (i + 1) met out := by
  obtain ⟨h, hp, hs⟩ := h
  refine ⟨h.first, h.reach, fun j' q hj' hq c hc => ?_, h.rises, h.same, h.len⟩
  by_cases e : j' = i
  · subst e
    rw [hp] at hq
    cases hq
    exact hs c (by rw [List.take_of_length_le hj]; exact hc)
  · exact h.shut j' q (by omega) hq c hc
theorem Srch.small {g : List (List Int)} {k : Int} {i : Nat} {met out : List Int} (hg : rowsB g = true) (hk : 0 ≤ k ∧ k < g.length) (h : Srch g k i met out) : met.length ≤ g.length := by
  have := rises_len 0 g.length h.rises (fun x hx => by have := reach_in hg hk (h.reach x ((h.same x).1 hx)); omega) (by omega)
  have := h.len
  omega
theorem Srch.done {g : List (List Int)} {k : Int} {i : Nat} {met out : List Int} (hg : rowsB g = true) (hk : 0 ≤ k ∧ k < g.length) (h : Srch g k i met out) (hi : met.length ≤ i) : out = reachL g k := by
  refine reachL_unique hg hk h.rises (fun x => ⟨fun hx => h.reach x ((h.same x).1 hx), fun hx => (h.same x).2 ?_⟩)
  induction hx with
  | self => exact h.first
  | step _ hc ih =>
    obtain ⟨j, hj, e⟩ := List.getElem_of_mem ih
    exact h.shut j _ (by omega) (by rw [List.getElem?_eq_getElem hj, e]) _ hc

end Go.Proofs.Ytnmnbeklofnonaa
