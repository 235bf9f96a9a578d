/- Tarjan's search, step by step: what holds of its state, and that each step keeps it. No program text is named here. -/
import Derived.Test.YtnmnbeklofnonaaComps
namespace Go.Proofs.Ytnmnbeklofnonaa
open Go.RowKit
set_option linter.unusedVariables false

/-- When each point was met (0: not yet), the least that was seen from it, how many of its list were looked at, whether it is open, how many were met, the open ones as they were met, the groups that were told. -/
structure TS where
  N : Nat → Nat
  bk : Nat → Nat
  lk : Nat → Nat
  op : Nat → Bool
  met : Nat
  opn : List Nat
  grp : List (List Int)

def upd {α : Type} (f : Nat → α) (p : Nat) (v : α) : Nat → α := fun i => if i = p then v else f i
theorem upd_same {α : Type} (f : Nat → α) (p : Nat) (v : α) : upd f p v p = v := by simp [upd]
theorem upd_other {α : Type} (f : Nat → α) {p q : Nat} (v : α) (h : q ≠ p) : upd f p v q = f q := by simp [upd, h]
theorem upd_id {α : Type} (f : Nat → α) (p : Nat) : upd f p (f p) = f := by funext i; unfold upd; split <;> simp_all

def rowN (g : List (List Int)) (q : Nat) : List Int := rowG g (q : Int)

structure Inv (g : List (List Int)) (S : TS) (way : List Nat) : Prop where
  small : ∀ q, S.N q ≠ 0 → q < g.length
  le : ∀ q, S.N q ≤ S.met
  inj : ∀ q r, S.N q = S.N r → S.N q ≠ 0 → q = r
  opmet : ∀ q, S.op q = true → S.N q ≠ 0
  opn : ∀ q, q ∈ S.opn ↔ S.op q = true
  sort : S.opn.Pairwise (fun a b => S.N a < S.N b)
  wop : ∀ p ∈ way, S.op p = true
  wsort : way.Pairwise (fun a b => S.N a < S.N b)
  root : ∀ q, S.op q = true → ∃ p ∈ way, S.N p ≤ S.N q
  reach : ∀ p ∈ way, ∀ q, S.op q = true → S.N p ≤ S.N q → Reach g (p : Int) (q : Int)
  low1 : ∀ q, S.op q = true → S.bk q ≤ S.N q
  low2 : ∀ q, S.op q = true → ∃ r, S.op r = true ∧ S.N r = S.bk q ∧ Reach g (q : Int) (r : Int)
  lk0 : ∀ q, S.N q = 0 → S.lk q = 0
  lkle : ∀ q, S.lk q ≤ (rowN g q).length
  look : ∀ q, S.op q = true → ∀ r : Nat, (r : Int) ∈ (rowN g q).take (S.lk q) → S.N r ≠ 0 ∧ (S.op r = true → S.bk q ≤ S.N r)
  fin : ∀ q, S.op q = true → q ∉ way → S.lk q = (rowN g q).length ∧ S.bk q < S.N q
  par : ∀ p ∈ way, ∀ q, S.op q = true → q ∉ way → S.N p < S.N q → (∀ p' ∈ way, S.N p' ≤ S.N p ∨ S.N q < S.N p') → S.bk p ≤ S.bk q
  closed : ∀ q, S.N q ≠ 0 → S.op q = false → ∀ r : Nat, (r : Int) ∈ rowN g q → S.N r ≠ 0 ∧ S.op r = false
  grp : ∀ G ∈ S.grp, ∃ k : Nat, k < g.length ∧ G = groupL g (k : Int) ∧ ∀ x : Nat, (x : Int) ∈ G → S.N x ≠ 0 ∧ S.op x = false
  cov : ∀ q, S.N q ≠ 0 → S.op q = false → ∃ G ∈ S.grp, (q : Int) ∈ G
  apart : S.grp.Pairwise (fun G H => ∀ x, x ∈ G → x ∉ H)

theorem mem_row {g : List (List Int)} (hg : rowsB g = true) {q : Nat} {c : Int} (h : c ∈ rowN g q) : ∃ r : Nat, c = (r : Int) ∧ r < g.length := by
  have := row_in hg h
  exact ⟨c.toNat, by omega, by omega⟩

/-! ### The start of a search -/
def tsStart : TS := ⟨fun _ => 0, fun _ => 0, fun _ => 0, fun _ => false, 0, [], []⟩
theorem Inv.start (g : List (List Int)) : Inv g tsStart [] := by
  constructor <;> simp [tsStart]

/-! ### A point is met -/
def meetS (S : TS) (c : Nat) : TS := ⟨upd S.N c (S.met + 1), upd S.bk c (S.met + 1), S.lk, upd S.op c true, S.met + 1, S.opn ++ [c], S.grp⟩
def lookS (S : TS) (p : Nat) : TS := { S with lk := upd S.lk p (S.lk p + 1) }
def minS (S : TS) (p v : Nat) : TS := { S with bk := upd S.bk p (min (S.bk p) v) }

theorem Inv.last_most {g : List (List Int)} {S : TS} {way : List Nat} {p : Nat} (h : Inv g S (way ++ [p])) : ∀ a ∈ way, S.N a < S.N p := by
  intro a ha
  exact (List.pairwise_append.1 h.wsort).2.2 a ha p (by simp)
theorem Inv.last_le {g : List (List Int)} {S : TS} {way : List Nat} {p : Nat} (h : Inv g S (way ++ [p])) : ∀ a ∈ way ++ [p], S.N a ≤ S.N p := by
  intro a ha
  rcases List.mem_append.1 ha with ha | ha
  · exact Nat.le_of_lt (h.last_most a ha)
  · have : a = p := by simpa using ha
    rw [this]; exact Nat.le_refl _

/-- The first point of a search. -/
theorem Inv.first {g : List (List Int)} (hg : rowsB g = true) {S : TS} {c : Nat} (h : Inv g S []) (hc : c < g.length) (hn : S.N c = 0) : Inv g (meetS S c) [c] := by
  have hno : ∀ q, S.op q = false := fun q => by
    cases e : S.op q with
    | false => rfl
    | true => obtain ⟨p, hp, _⟩ := h.root q e; simp at hp
  have hne : ∀ q, S.N q ≠ 0 → q ≠ c := fun q hq e => hq (by rw [e]; exact hn)
  have hopn : S.opn = [] := List.eq_nil_iff_forall_not_mem.2 (fun q hq => by rw [h.opn, hno] at hq; cases hq)
  have hop : ∀ q, (meetS S c).op q = true → q = c := fun q hq => by
    unfold meetS upd at hq
    by_cases e : q = c
    · exact e
    · simp [e, hno] at hq
  have hopc : (meetS S c).op c = true := upd_same _ _ _
  have hNc : (meetS S c).N c = S.met + 1 := upd_same _ _ _
  have hbc : (meetS S c).bk c = S.met + 1 := upd_same _ _ _
  have hlc : (meetS S c).lk c = 0 := h.lk0 c hn
  constructor
  · intro q hq
    by_cases e : q = c
    · rw [e]; exact hc
    · exact h.small q (by rwa [show (meetS S c).N q = S.N q from upd_other _ _ e] at hq)
  · intro q
    show upd S.N c (S.met + 1) q ≤ S.met + 1
    unfold upd
    split
    · exact Nat.le_refl _
    · have := h.le q; omega
  · intro q r e hq
    have hle := h.le
    simp only [meetS, upd] at e hq
    by_cases e1 : q = c
    · by_cases e2 : r = c
      · rw [e1, e2]
      · simp [e1, e2] at e; have := hle r; omega
    · by_cases e2 : r = c
      · simp [e1, e2] at e; have := hle q; omega
      · simp [e1, e2] at e hq
        exact h.inj q r e hq
  · intro q hq
    rw [hop q hq, hNc]; omega
  · intro q
    show q ∈ S.opn ++ [c] ↔ _
    rw [hopn]
    constructor
    · intro hq; have : q = c := by simpa using hq
      rw [this]; exact hopc
    · intro hq; simp [hop q hq]
  · show (S.opn ++ [c]).Pairwise _
    rw [hopn]; simp
  · intro p hp
    have : p = c := by simpa using hp
    rw [this]; exact hopc
  · simp
  · intro q hq
    exact ⟨c, by simp, by rw [hop q hq]; exact Nat.le_refl _⟩
  · intro p hp q hq _
    have : p = c := by simpa using hp
    rw [this, hop q hq]; exact .self
  · intro q hq
    rw [hop q hq, hbc, hNc]; exact Nat.le_refl _
  · intro q hq
    rw [hop q hq]
    exact ⟨c, hopc, by rw [hbc, hNc], .self⟩
  · intro q hq
    by_cases e : q = c
    · rw [e, hNc] at hq; omega
    · exact h.lk0 q (by rwa [show (meetS S c).N q = S.N q from upd_other _ _ e] at hq)
  · exact h.lkle
  · intro q hq r hr
    rw [hop q hq, hlc] at hr
    simp at hr
  · intro q hq hq'
    exact absurd (by simp [hop q hq]) hq'
  · intro p hp q hq hq'
    exact absurd (by simp [hop q hq]) hq'
  · intro q hq hqo r hr
    by_cases e : q = c
    · rw [e, hopc] at hqo; cases hqo
    · have hq' : S.N q ≠ 0 := by rwa [show (meetS S c).N q = S.N q from upd_other _ _ e] at hq
      obtain ⟨h1, h2⟩ := h.closed q hq' (hno q) r hr
      have er := hne r h1
      exact ⟨by rw [show (meetS S c).N r = S.N r from upd_other _ _ er]; exact h1, by rw [show (meetS S c).op r = S.op r from upd_other _ _ er]; exact h2⟩
  · intro G hG
    obtain ⟨k, hk, e, hx⟩ := h.grp G hG
    refine ⟨k, hk, e, fun x hxG => ?_⟩
    obtain ⟨h1, h2⟩ := hx x hxG
    have er := hne x h1
    exact ⟨by rw [show (meetS S c).N x = S.N x from upd_other _ _ er]; exact h1, by rw [show (meetS S c).op x = S.op x from upd_other _ _ er]; exact h2⟩
  · intro q hq hqo
    by_cases e : q = c
    · rw [e, hopc] at hqo; cases hqo
    · exact h.cov q (by rwa [show (meetS S c).N q = S.N q from upd_other _ _ e] at hq) (hno q)
  · exact h.apart

end Go.Proofs.Ytnmnbeklofnonaa
