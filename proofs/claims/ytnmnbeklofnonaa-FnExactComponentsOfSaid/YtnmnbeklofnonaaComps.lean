/- The groups of a graph whose points lead to each other, by their first points, and the order in which they are told: always the first that leads into none of the others left. There is always one. No program text is named here. -/
import Derived.Test.YtnmnbeklofnonaaGraph
namespace Go.Proofs.Ytnmnbeklofnonaa
open Go.RowKit
set_option linter.unusedVariables false

open Classical in
/-- The points that lead to each other with k, rising. -/
noncomputable def groupL (g : List (List Int)) (k : Int) : List Int := (reachL g k).filter fun n => decide (k ∈ reachL g n)
/-- All groups, by their first points. -/
noncomputable def groupsL (g : List (List Int)) : List (List Int) :=
  (((List.range g.length).map fun (i : Nat) => (i : Int)).filter fun k => decide ((groupL g k).head? = some k)).map (groupL g)

open Classical in
theorem groupL_mem {g : List (List Int)} (hg : rowsB g = true) {k : Int} (hk : 0 ≤ k ∧ k < g.length) (x : Int) : x ∈ groupL g k ↔ Reach g k x ∧ Reach g x k := by
  unfold groupL
  rw [List.mem_filter, reachL_mem hg hk, decide_eq_true_iff]
  constructor
  · rintro ⟨h1, h2⟩
    exact ⟨h1, (reachL_mem hg (reach_in hg hk h1) k).1 h2⟩
  · rintro ⟨h1, h2⟩
    exact ⟨h1, (reachL_mem hg (reach_in hg hk h1) k).2 h2⟩
theorem groupL_rises (g : List (List Int)) (k : Int) : Rises (groupL g k) := List.Pairwise.filter _ (reachL_rises g k)
theorem groupL_self {g : List (List Int)} (hg : rowsB g = true) {k : Int} (hk : 0 ≤ k ∧ k < g.length) : k ∈ groupL g k := (groupL_mem hg hk k).2 ⟨.self, .self⟩
theorem groupL_in {g : List (List Int)} (hg : rowsB g = true) {k x : Int} (hk : 0 ≤ k ∧ k < g.length) (h : x ∈ groupL g k) : 0 ≤ x ∧ x < g.length := reach_in hg hk ((groupL_mem hg hk x).1 h).1
/-- A group is the group of each of its points. -/
theorem groupL_same {g : List (List Int)} (hg : rowsB g = true) {k x : Int} (hk : 0 ≤ k ∧ k < g.length) (h : x ∈ groupL g k) : groupL g x = groupL g k := by
  have hx := groupL_in hg hk h
  obtain ⟨h1, h2⟩ := (groupL_mem hg hk x).1 h
  refine rises_ext (groupL_rises g x) (groupL_rises g k) (fun y => ?_)
  rw [groupL_mem hg hx, groupL_mem hg hk]
  exact ⟨fun ⟨a, b⟩ => ⟨h1.trans a, b.trans h2⟩, fun ⟨a, b⟩ => ⟨h2.trans a, b.trans h1⟩⟩

/-- What is left of the groups: each is one, and no point lies in two. -/
def Left (g left : List (List Int)) : Prop := (∀ G ∈ left, ∃ k, (0 ≤ k ∧ k < (g.length : Int)) ∧ G = groupL g k) ∧ left.Pairwise (fun G H => ∀ x, x ∈ G → x ∉ H)

theorem left_groups {g : List (List Int)} (hg : rowsB g = true) : Left g (groupsL g) := by
  refine ⟨fun G hG => ?_, ?_⟩
  · obtain ⟨k, hk, rfl⟩ := List.mem_map.1 hG
    obtain ⟨i, hi, rfl⟩ := List.mem_map.1 (List.mem_filter.1 hk).1
    exact ⟨_, ⟨by omega, by have := List.mem_range.1 hi; omega⟩, rfl⟩
  · unfold groupsL
    rw [List.pairwise_map]
    refine (List.Pairwise.filter _ (range_rises g.length)).imp_of_mem ?_
    intro a b ha hb hab x hxa hxb
    obtain ⟨ia, hia, ea⟩ := List.mem_map.1 (List.mem_filter.1 ha).1
    obtain ⟨ib, hib, eb⟩ := List.mem_map.1 (List.mem_filter.1 hb).1
    have hia := List.mem_range.1 hia
    have hib := List.mem_range.1 hib
    have h1 := groupL_same hg (k := a) (by omega) hxa
    have h2 := groupL_same hg (k := b) (by omega) hxb
    have h3 := of_decide_eq_true (List.mem_filter.1 ha).2
    have h4 := of_decide_eq_true (List.mem_filter.1 hb).2
    rw [← h1, h2, h4] at h3
    cases h3
    omega

/-- Whether the group at k leads into none of the others. -/
def freeB (g left : List (List Int)) (k : Nat) : Bool :=
  (left[k]?.getD []).all fun p => (List.range left.length).all fun i => decide (i = k) || (left[i]?.getD []).all fun n => !decide (n ∈ rowG g p)
theorem freeB_yes {g left : List (List Int)} {k : Nat} (h : ∀ p ∈ left[k]?.getD [], ∀ i, i < left.length → i ≠ k → ∀ n ∈ left[i]?.getD [], n ∉ rowG g p) : freeB g left k = true := by
  unfold freeB
  rw [List.all_eq_true]
  intro p hp
  rw [List.all_eq_true]
  intro i hi
  by_cases e : i = k
  · simp [e]
  · rw [Bool.or_eq_true]
    right
    rw [List.all_eq_true]
    intro n hn
    simpa using h p hp i (List.mem_range.1 hi) e n hn

theorem reach_less {g : List (List Int)} (hg : rowsB g = true) {p n : Int} (hp : 0 ≤ p ∧ p < g.length) (h : Reach g p n) (hn : ¬ Reach g n p) : (reachL g n).length < (reachL g p).length := by
  have hnn := reach_in hg hp h
  have hs : (reachL g n).Sublist (reachL g p) := by
    have e : reachL g n = (reachL g p).filter (fun x => decide (x ∈ reachL g n)) := by
      refine rises_ext (reachL_rises g n) (List.Pairwise.filter _ (reachL_rises g p)) (fun x => ?_)
      rw [List.mem_filter, decide_eq_true_iff]
      refine ⟨fun hx => ⟨?_, hx⟩, fun hx => hx.2⟩
      exact (reachL_mem hg hp x).2 (h.trans ((reachL_mem hg hnn x).1 hx))
    rw [e]
    exact List.filter_sublist
  rcases Nat.lt_or_ge (reachL g n).length (reachL g p).length with hl | hl
  · exact hl
  · have e := hs.eq_of_length_le hl
    have : p ∈ reachL g n := by rw [e]; exact (reachL_mem hg hp p).2 .self
    exact absurd ((reachL_mem hg hnn p).1 this) hn

/-- One of the list has the least measure. -/
theorem least_of {α : Type} (m : α → Nat) : ∀ (l : List α), l ≠ [] → ∃ (k : Nat) (h : k < l.length), ∀ (i : Nat) (hi : i < l.length), m l[k] ≤ m l[i]
  | [], h => absurd rfl h
  | [x], _ => by
    refine ⟨0, by simp, fun i hi => ?_⟩
    have e : i = 0 := by simpa using hi
    subst e
    exact Nat.le_refl _
  | x :: y :: l, _ => by
    obtain ⟨k, hk, hm⟩ := least_of m (y :: l) (by simp)
    by_cases h : m x ≤ m (y :: l)[k]
    · refine ⟨0, by simp, fun i hi => ?_⟩
      cases i with
      | zero => exact Nat.le_refl _
      | succ i => simpa using Nat.le_trans h (hm i (by simpa using hi))
    · refine ⟨k + 1, by simpa using hk, fun i hi => ?_⟩
      cases i with
      | zero => simp only [List.getElem_cons_succ, List.getElem_cons_zero]; omega
      | succ i => simpa using hm i (by simpa using hi)

/-- There is a group left that leads into none of the others. -/
theorem free_one {g left : List (List Int)} (hg : rowsB g = true) (hl : Left g left) (hne : left ≠ []) : ∃ k, k < left.length ∧ freeB g left k = true := by
  obtain ⟨k, hk, hm⟩ := least_of (fun G : List Int => (reachL g (G.head?.getD 0)).length) left hne
  refine ⟨k, hk, freeB_yes ?_⟩
  intro p hp i hi hik n hn hpn
  rw [List.getElem?_eq_getElem hk] at hp
  rw [List.getElem?_eq_getElem hi] at hn
  have hp : p ∈ left[k] := hp
  have hn : n ∈ left[i] := hn
  obtain ⟨a, ha, ea⟩ := hl.1 left[k] (List.getElem_mem hk)
  obtain ⟨b, hb, eb⟩ := hl.1 left[i] (List.getElem_mem hi)
  have hmi := hm i hi
  rw [ea] at hp
  rw [eb] at hn
  have hpi := groupL_in hg ha hp
  have hni := groupL_in hg hb hn
  -- the group's own first point
  have first : ∀ (c : Int) (hc : 0 ≤ c ∧ c < (g.length : Int)) (x : Int), x ∈ groupL g c → (reachL g ((groupL g c).head?.getD 0)).length = (reachL g x).length := by
    intro c hc x hx
    obtain ⟨y, hy⟩ : ∃ y, (groupL g c).head? = some y := by
      cases hG : groupL g c with
      | nil => rw [hG] at hx; simp at hx
      | cons y l => exact ⟨y, rfl⟩
    rw [hy]
    have hym : y ∈ groupL g c := List.mem_of_mem_head? (by rw [hy]; exact rfl)
    obtain ⟨x1, x2⟩ := (groupL_mem hg hc x).1 hx
    obtain ⟨y1, y2⟩ := (groupL_mem hg hc y).1 hym
    have hyi := groupL_in hg hc hym
    have hxi := groupL_in hg hc hx
    have e : reachL g y = reachL g x := rises_ext (reachL_rises g y) (reachL_rises g x) (fun z => by
      rw [reachL_mem hg hyi, reachL_mem hg hxi]
      exact ⟨fun hz => (x2.trans y1).trans hz, fun hz => (y2.trans x1).trans hz⟩)
    show (reachL g y).length = (reachL g x).length
    rw [e]
  have e1 := first a ha p hp
  have e2 := first b hb n hn
  simp only [ea, eb] at hmi
  rw [e1, e2] at hmi
  have hpr : Reach g p n := Reach.self.step hpn
  by_cases hr : Reach g n p
  · -- then both lie in one group
    have hnp : n ∈ groupL g p := (groupL_mem hg hpi n).2 ⟨hpr, hr⟩
    rw [groupL_same hg ha hp] at hnp
    have hd := List.pairwise_iff_getElem.1 hl.2
    rcases Nat.lt_or_ge i k with hlt | hge
    · exact hd i k hi hk hlt n (by rw [eb]; exact hn) (by rw [ea]; exact hnp)
    · exact hd k i hk hi (by omega) n (by rw [ea]; exact hnp) (by rw [eb]; exact hn)
  · have := reach_less hg hpi hpr hr
    omega

/-- The first group that leads into none of the others. -/
def pickC (g left : List (List Int)) : Option Nat := (List.range left.length).find? (freeB g left)
theorem pickC_some {g left : List (List Int)} (hg : rowsB g = true) (hl : Left g left) (hne : left ≠ []) : ∃ k, pickC g left = some k ∧ k < left.length := by
  obtain ⟨k, hk, hf⟩ := free_one hg hl hne
  cases h : pickC g left with
  | none => exact absurd hf (List.find?_eq_none.1 h k (List.mem_range.2 hk))
  | some j => exact ⟨j, rfl, List.mem_range.1 (List.mem_of_find?_eq_some h)⟩
theorem Left.erase {g left : List (List Int)} (h : Left g left) (k : Nat) : Left g (left.eraseIdx k) :=
  ⟨fun G hG => h.1 G ((List.eraseIdx_sublist _ _).subset hG), h.2.sublist (List.eraseIdx_sublist _ _)⟩
/-- The groups in the order in which they are told. -/
def compsC (g : List (List Int)) : Nat → List (List Int) → List (List Int)
  | 0, _ => []
  | f + 1, left => match pickC g left with
    | none => []
    | some k => (left[k]?.getD []) :: compsC g f (left.eraseIdx k)
noncomputable def compsL (g : List (List Int)) : List (List Int) := compsC g (groupsL g).length (groupsL g)

end Go.Proofs.Ytnmnbeklofnonaa
