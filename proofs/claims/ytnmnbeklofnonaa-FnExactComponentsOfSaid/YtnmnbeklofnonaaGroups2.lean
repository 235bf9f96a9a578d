/- Groups sorted by their numbers are the groups by their first points; a group is free just where all that its points hang on is told or its own. No program text is named here. -/
import Derived.Test.YtnmnbeklofnonaaCompare
import Derived.Test.YtnmnbeklofnonaaCompS
namespace Go.Proofs.Ytnmnbeklofnonaa
open Go.RowKit
set_option linter.unusedVariables false

/-- L is all groups of g, each once. -/
structure Told (g L : List (List Int)) : Prop where
  is : ∀ G ∈ L, ∃ k : Nat, k < g.length ∧ G = groupL g (k : Int)
  all : ∀ q : Nat, q < g.length → ∃ G ∈ L, (q : Int) ∈ G
  apart : L.Pairwise (fun G H => ∀ x, x ∈ G → x ∉ H)
  len : L.length ≤ g.length

def hdI (G : List Int) : Int := G.head?.getD 0
theorem hdI_mem {G : List Int} {x : Int} (h : x ∈ G) : hdI G ∈ G := by
  cases G with
  | nil => simp at h
  | cons a t => simp [hdI]
theorem groupsL_keys (g : List (List Int)) : (groupsL g).Pairwise (fun G H => hdI G < hdI H) := by
  unfold groupsL
  rw [List.pairwise_map]
  refine ((range_rises g.length).filter _).imp_of_mem ?_
  intro a b ha hb hab
  have h1 := (List.mem_filter.1 ha).2
  have h2 := (List.mem_filter.1 hb).2
  have h1 : (groupL g a).head? = some a := by simpa using h1
  have h2 : (groupL g b).head? = some b := by simpa using h2
  unfold hdI
  rw [h1, h2]
  exact hab
theorem groupsL_mem {g : List (List Int)} (hg : rowsB g = true) (G : List Int) : G ∈ groupsL g ↔ ∃ k : Nat, k < g.length ∧ G = groupL g (k : Int) := by
  constructor
  · intro h
    obtain ⟨k, hk, e⟩ := (left_groups hg).1 G h
    exact ⟨k.toNat, by omega, by rw [e]; congr 1; omega⟩
  · rintro ⟨k, hk, rfl⟩
    have hk' : 0 ≤ (k : Int) ∧ (k : Int) < g.length := by omega
    have hs := groupL_self hg hk'
    obtain ⟨h, t, e⟩ : ∃ h t, groupL g (k : Int) = h :: t := by
      cases e : groupL g (k : Int) with
      | nil => rw [e] at hs; simp at hs
      | cons h t => exact ⟨h, t, rfl⟩
    have hm : h ∈ groupL g (k : Int) := by rw [e]; simp
    have hb := groupL_in hg hk' hm
    have hsame := groupL_same hg hk' hm
    unfold groupsL
    refine List.mem_map.2 ⟨h, List.mem_filter.2 ⟨?_, ?_⟩, hsame⟩
    · exact List.mem_map.2 ⟨h.toNat, List.mem_range.2 (by omega), by omega⟩
    · rw [decide_eq_true_iff, hsame, e]; rfl
theorem Told.mem {g L : List (List Int)} (hg : rowsB g = true) (h : Told g L) (G : List Int) : G ∈ L ↔ G ∈ groupsL g := by
  rw [groupsL_mem hg]
  constructor
  · exact h.is G
  · rintro ⟨k, hk, rfl⟩
    obtain ⟨H, hH, hkH⟩ := h.all k hk
    obtain ⟨q, hq, e⟩ := h.is H hH
    rw [e] at hkH
    have := groupL_same hg (by omega) hkH
    rw [this, ← e]; exact hH

/-- Two lists whose keys rise and that have the same members are one. -/
theorem keys_ext {α : Type} (key : α → Int) : ∀ {a b : List α}, a.Pairwise (fun x y => key x < key y) → b.Pairwise (fun x y => key x < key y) → (∀ x, x ∈ a ↔ x ∈ b) → a = b
  | [], [], _, _, _ => rfl
  | [], y :: b, _, _, h => by have := (h y).2 (by simp); simp at this
  | x :: a, [], _, _, h => by have := (h x).1 (by simp); simp at this
  | x :: a, y :: b, ha, hb, h => by
    have ha' := List.pairwise_cons.1 ha
    have hb' := List.pairwise_cons.1 hb
    have hxy : x = y := by
      have h1 := (h x).1 (by simp)
      have h2 := (h y).2 (by simp)
      rcases List.mem_cons.1 h1 with e | h1
      · exact e
      · rcases List.mem_cons.1 h2 with e | h2
        · exact e.symm
        · have := hb'.1 x h1; have := ha'.1 y h2; omega
    subst hxy
    have ht : a = b := keys_ext key ha'.2 hb'.2 (fun z => by
      constructor
      · intro hz
        rcases List.mem_cons.1 ((h z).1 (List.mem_cons_of_mem _ hz)) with e | k
        · have := ha'.1 z hz; rw [e] at this; omega
        · exact k
      · intro hz
        rcases List.mem_cons.1 ((h z).2 (List.mem_cons_of_mem _ hz)) with e | k
        · have := hb'.1 z hz; rw [e] at this; omega
        · exact k)
    rw [ht]

theorem cmpL_heads {G H : List Int} {x y : Int} (hx : x ∈ G) (hy : y ∈ H) (h : hdI H < hdI G) : cmpL H G < 0 := by
  cases G with
  | nil => simp at hx
  | cons a s =>
    cases H with
    | nil => simp at hy
    | cons b t =>
      simp only [hdI, List.head?_cons, Option.getD_some] at h
      have e : cmpI b a = -1 := by unfold cmpI; rw [if_pos h]
      simp only [cmpL, e]
      rw [if_neg (by decide)]; decide

theorem sorted_groups {g L X : List (List Int)} (hg : rowsB g = true) (T : Told g L) (hp : X.Perm L) (hs : X.Pairwise (fun G H => ¬ cmpL H G < 0)) : X = groupsL g := by
  have hap : X.Pairwise (fun G H => ∀ x, x ∈ G → x ∉ H) := (hp.pairwise_iff (fun {a b} h x h1 h2 => h x h2 h1)).2 T.apart
  have hne : ∀ G ∈ X, ∃ x, x ∈ G := fun G hG => by
    obtain ⟨k, hk, e⟩ := T.is G (hp.mem_iff.1 hG)
    exact ⟨k, by rw [e]; exact groupL_self hg (by omega)⟩
  refine keys_ext hdI ?_ (groupsL_keys g) (fun G => by rw [hp.mem_iff, T.mem hg])
  refine (hs.and hap).imp_of_mem ?_
  rintro G H hG hH ⟨h1, h2⟩
  obtain ⟨x, hx⟩ := hne G hG
  obtain ⟨y, hy⟩ := hne H hH
  have ha := hdI_mem hx
  have hb := hdI_mem hy
  rcases Int.lt_trichotomy (hdI G) (hdI H) with h | h | h
  · exact h
  · exact absurd hb (by rw [← h]; exact h2 _ ha)
  · exact absurd (cmpL_heads hx hy h) h1

/-! ### Which group is free, by what is told -/
def GMarks (g LL : List (List Int)) (tb : Nat → Bool) : Prop := ∀ q : Nat, q < g.length → (tb q = true ↔ ∀ G ∈ LL, (q : Int) ∉ G)
def isFreeB (g : List (List Int)) (G : List Int) (tb : Nat → Bool) : Bool := G.all fun p => (rowG g p).all fun o => tb o.toNat || hasI G o
theorem hasI_mem (l : List Int) (n : Int) : hasI l n = true ↔ n ∈ l := by simp [hasI]
theorem isFree_eq {g LL : List (List Int)} {tb : Nat → Bool} {k : Nat} {G : List Int} (hg : rowsB g = true) (hl : Left g LL) (M : GMarks g LL tb) (hk : LL[k]? = some G) : isFreeB g G tb = freeB g LL k := by
  have hklt : k < LL.length := (List.getElem?_eq_some_iff.1 hk).1
  have hkG : LL[k] = G := (List.getElem?_eq_some_iff.1 hk).2
  have hd := List.pairwise_iff_getElem.1 hl.2
  have hdis : ∀ (i : Nat) (hi : i < LL.length), i ≠ k → ∀ x ∈ LL[i], x ∉ G := fun i hi hik x hx hxG => by
    rcases Nat.lt_or_ge i k with h | h
    · exact hd i k hi hklt h x hx (by rw [hkG]; exact hxG)
    · exact hd k i hklt hi (by omega) x (by rw [hkG]; exact hxG) hx
  rw [Bool.eq_iff_iff]
  constructor
  · intro h
    refine freeB_yes (fun p hp i hi hik n hn hno => ?_)
    rw [hk, Option.getD_some] at hp
    rw [List.getElem?_eq_getElem hi, Option.getD_some] at hn
    have h1 := List.all_eq_true.1 (List.all_eq_true.1 h p hp) n hno
    have hnb := row_in hg hno
    rw [Bool.or_eq_true] at h1
    rcases h1 with h1 | h1
    · have := (M n.toNat (by omega)).1 h1 LL[i] (List.getElem_mem hi)
      rw [Int.toNat_of_nonneg hnb.1] at this
      exact this hn
    · exact hdis i hi hik n hn ((hasI_mem G n).1 h1)
  · intro h
    unfold isFreeB
    rw [List.all_eq_true]
    intro p hp
    rw [List.all_eq_true]
    intro o ho
    have hob := row_in hg ho
    rw [Bool.or_eq_true]
    cases ht : tb o.toNat with
    | true => exact .inl rfl
    | false =>
      right
      rw [hasI_mem]
      have h1 : ¬ ∀ H ∈ LL, ((o.toNat : Nat) : Int) ∉ H := fun e => by
        have := (M o.toNat (by omega)).2 e
        rw [ht] at this; cases this
      rw [Int.toNat_of_nonneg hob.1] at h1
      have ⟨H, h2⟩ := Classical.not_forall.1 h1
      have ⟨hH, h3⟩ := Classical.not_imp.1 h2
      have hoH := Classical.not_not.1 h3
      obtain ⟨i, hi, rfl⟩ := List.getElem_of_mem hH
      by_cases hik : i = k
      · subst hik; rw [← hkG]; exact hoH
      · exfalso
        unfold freeB at h
        rw [hk, Option.getD_some] at h
        have h4 := List.all_eq_true.1 (List.all_eq_true.1 h p hp) i (List.mem_range.2 hi)
        rw [List.getElem?_eq_getElem hi, Option.getD_some, Bool.or_eq_true] at h4
        rcases h4 with h4 | h4
        · exact hik (by simpa using h4)
        · have := List.all_eq_true.1 h4 o hoH
          simp [ho] at this
theorem GMarks.start {g : List (List Int)} (hg : rowsB g = true) : GMarks g (groupsL g) (fun _ => false) := by
  intro q hq
  simp only [Bool.false_eq_true, false_iff]
  intro h
  exact h _ ((groupsL_mem hg _).2 ⟨q, hq, rfl⟩) (groupL_self hg (by omega))
theorem mem_erase_or {α : Type} {l : List α} {k : Nat} {x : α} (hk : l[k]? = some x) {y : α} (h : y ∈ l) : y = x ∨ y ∈ l.eraseIdx k := by
  have hlt : k < l.length := (List.getElem?_eq_some_iff.1 hk).1
  have he : l[k] = x := (List.getElem?_eq_some_iff.1 hk).2
  have hp := perm_erase l k hlt
  rw [he] at hp
  have := hp.mem_iff.2 h
  simpa using this
theorem GMarks.next {g LL : List (List Int)} {tb tb' : Nat → Bool} {k : Nat} {G : List Int} (hl : Left g LL) (M : GMarks g LL tb) (hk : LL[k]? = some G) (ht : ∀ q : Nat, q < g.length → tb' q = (tb q || hasI G (q : Int))) : GMarks g (LL.eraseIdx k) tb' := by
  intro q hq
  rw [ht q hq, Bool.or_eq_true, hasI_mem, M q hq]
  have hlt : k < LL.length := (List.getElem?_eq_some_iff.1 hk).1
  have he : LL[k] = G := (List.getElem?_eq_some_iff.1 hk).2
  constructor
  · rintro (h | h) H hH
    · exact h H ((List.eraseIdx_sublist _ _).subset hH)
    · intro hqH
      have hp := perm_erase LL k hlt
      have hpw : (LL[k] :: LL.eraseIdx k).Pairwise (fun G H => ∀ x, x ∈ G → x ∉ H) := (hp.pairwise_iff (fun {a b} h x h1 h2 => h x h2 h1)).2 hl.2
      exact (List.pairwise_cons.1 hpw).1 H hH q (by rw [he]; exact h) hqH
  · intro h
    by_cases hG : (q : Int) ∈ G
    · exact .inr hG
    · refine .inl fun H hH => ?_
      rcases mem_erase_or hk hH with e | e
      · rw [e]; exact hG
      · exact h H e

end Go.Proofs.Ytnmnbeklofnonaa
