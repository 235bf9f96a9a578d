/- Texts of this proof, part l: words, plain facts, contracts. -/
import Derived.Test.YtbffkidkfannhaaGreatMGoodNetk
import Derived.Test.YtbffkidkfannhaaGreatMGoodNetc
import Derived.Test.YtbffkidkfannhaaGreatMGoodNeta
import Derived.Test.YtbffkidkfannhaaGreatMGoodNetb

namespace Go.Proofs.YtbffkidkfannhaaGreat
open Go.RowKit
set_option linter.unusedVariables false

theorem headG_eq (n : Int) (r : MsgD) : headG n r = (inB r.kd 1 7 && (wayB n r && inB r.b 0 9999)) := by
  unfold headG wayB repB instB
  generalize isGrp n = a
  generalize inB r.kd 1 7 = b
  generalize inB r.fr 0 (n - 1) = c
  generalize inB r.tt 0 (n - 1) = d
  generalize (r.fr == r.tt) = e
  generalize inB r.rp 0 (n - 1) = f
  generalize inB r.no 1 6 = g
  generalize inB r.b 0 9999 = h
  revert a b c d e f g h
  decide
theorem sameA_self (s : Int) (l : List Int) : sameA s s l l = true := by unfold sameA; simp
theorem sameM_13 (r : MsgD) : sameM r ⟨r.kd, r.fr, r.tt, r.rp, r.no, r.b, 0, 0, r.k, r.i, r.f, r.t, r.a, r.s, r.l⟩ = (r.v == 0 && r.st == 0) := by
  unfold sameM sameH sameC
  simp [sameA_self]
theorem sameM_2 (r : MsgD) : sameM r ⟨r.kd, r.fr, r.tt, r.rp, r.no, r.b, 0, 0, 0, 0, 0, 0, 0, r.s, r.l⟩ = (r.v == 0 && r.st == 0 && zeroC r.k r.i r.f r.t r.a) := by
  unfold sameM sameH sameC zeroC
  simp [sameA_self, Bool.and_assoc]
theorem sameM_4 (n : Int) (r : MsgD) : sameM r ⟨r.kd, r.fr, r.tt, r.rp, r.no, r.b, 0, 0, 0, 0, 0, 0, 0, 0, noneL n⟩ = (r.v == 0 && r.st == 0 && (zeroC r.k r.i r.f r.t r.a && sameA r.s 0 r.l (noneL n))) := by
  unfold sameM sameH sameC zeroC
  simp [Bool.and_assoc]
theorem sameM_self (r : MsgD) : sameM r r = true := by
  unfold sameM sameH sameC
  simp [sameA_self]
theorem zeroC_good (k i f t a : Int) (h : zeroC k i f t a = true) : goodB k i f t a = true := by
  unfold zeroC at h
  simp only [Bool.and_eq_true, beq_iff_eq] at h
  obtain ⟨rfl, rfl, rfl, rfl, rfl⟩ := h
  decide
theorem none_good (n s : Int) (l : List Int) (hn : isGrp n = true) (h : sameA s 0 l (noneL n) = true) : goodD n s l = true := by
  unfold sameA at h
  simp only [Bool.and_eq_true, beq_iff_eq, decide_eq_true_eq] at h
  obtain ⟨rfl, rfl⟩ := h
  rcases isGrp_of hn with rfl | rfl <;> decide
theorem and_imp {a b : Bool} (h : a = true → b = true) : (b && a) = a := by
  cases a with
  | false => simp
  | true => rw [h rfl]; rfl
theorem goodGm_eq (n : Int) (r : MsgD) : goodGm n r = goodM n r := by
  unfold goodGm goodM
  rw [headG_eq]
  cases hk : inB r.kd 1 7 with
  | false => rfl
  | true =>
    cases hW : wayB n r with
    | false => simp
    | true =>
      have hg := wayB_grp hW
      have hA : goodA n r.s r.l = goodD n r.s r.l := by unfold goodA; rw [hg]; rfl
      have hk2 : 1 ≤ r.kd ∧ r.kd ≤ 7 := by unfold inB at hk; simpa using hk
      simp only [Bool.true_and]
      by_cases k7 : r.kd = 7
      · have e1 : ballotB r = inB r.b 0 9999 := by unfold ballotB; rw [if_neg (by omega)]
        have e2 : contB n r = (!(r.st == 3) && goodRow n (rowM r)) := by unfold contB; rw [if_neg (by omega), if_pos k7]
        have e3 : onlyM n r = r := by unfold onlyM; rw [if_neg (by omega), if_pos k7]
        rw [if_pos k7, e1, e2, e3, sameM_self, Bool.and_true]
        rfl
      · rw [if_neg k7]
        unfold bodyG
        by_cases k2 : r.kd = 2
        · have e1 : ballotB r = inB r.b 0 9999 := by unfold ballotB; rw [if_neg (by omega)]
          have e2 : contB n r = goodA n r.s r.l := by unfold contB; rw [if_pos k2]
          have e3 : onlyM n r = ⟨r.kd, r.fr, r.tt, r.rp, r.no, r.b, 0, 0, 0, 0, 0, 0, 0, r.s, r.l⟩ := by unfold onlyM; rw [if_pos k2]
          have e4 : lastG n r = zeroC r.k r.i r.f r.t r.a := by unfold lastG; rw [if_pos k2]
          have e5 : (r.kd == 5) = false := by simp; omega
          rw [e1, e2, e3, e4, e5, hA, sameM_2]
          have hz := zeroC_good r.k r.i r.f r.t r.a
          clear e1 e2 e3 e4 e5 hA
          generalize zeroC r.k r.i r.f r.t r.a = z at hz ⊢
          generalize goodB r.k r.i r.f r.t r.a = g at hz ⊢
          generalize inB r.b 0 9999 = a
          generalize (r.b == 0) = p
          generalize (r.v == 0) = b
          generalize (r.st == 0) = c
          generalize goodD n r.s r.l = d
          revert z g a b c d p
          decide
        · by_cases k4 : r.kd = 4 ∨ r.kd = 6
          · have e1 : ballotB r = inB r.b 0 9999 := by unfold ballotB; rw [if_neg (by omega)]
            have e2 : contB n r = true := by unfold contB; rw [if_neg (by omega), if_neg (by omega), if_pos k4]
            have e3 : onlyM n r = ⟨r.kd, r.fr, r.tt, r.rp, r.no, r.b, 0, 0, 0, 0, 0, 0, 0, 0, noneL n⟩ := by unfold onlyM; rw [if_neg k2, if_neg k7, if_pos k4]
            have e4 : lastG n r = (zeroC r.k r.i r.f r.t r.a && sameA r.s 0 r.l (noneL n)) := by unfold lastG; rw [if_neg k2, if_pos k4]
            have e5 : (r.kd == 5) = false := by simp; omega
            rw [e1, e2, e3, e4, e5, sameM_4]
            have hz := zeroC_good r.k r.i r.f r.t r.a
            have hs := none_good n r.s r.l hg
            clear e1 e2 e3 e4 e5 hA
            generalize zeroC r.k r.i r.f r.t r.a = z at hz ⊢
            generalize goodB r.k r.i r.f r.t r.a = g at hz ⊢
            generalize inB r.b 0 9999 = a
            generalize (r.b == 0) = p
            generalize (r.v == 0) = b
            generalize (r.st == 0) = c
            generalize sameA r.s 0 r.l (noneL n) = e at hs ⊢
            generalize goodD n r.s r.l = d at hs ⊢
            revert z g a b c d e p
            decide
          · have e2 : contB n r = (goodB r.k r.i r.f r.t r.a && goodA n r.s r.l) := by unfold contB; rw [if_neg k2, if_neg k7, if_neg k4]
            have e3 : onlyM n r = ⟨r.kd, r.fr, r.tt, r.rp, r.no, r.b, 0, 0, r.k, r.i, r.f, r.t, r.a, r.s, r.l⟩ := by unfold onlyM; rw [if_neg k2, if_neg k7, if_neg k4]
            have e4 : lastG n r = true := by unfold lastG; rw [if_neg k2, if_neg k4]
            by_cases k5 : r.kd = 5
            · have e1 : ballotB r = (r.b == 0) := by unfold ballotB; rw [if_pos k5]
              have e5 : (r.kd == 5) = true := by simp; omega
              have hi : (r.b == 0) = true → inB r.b 0 9999 = true := fun h => by
                have h0 : r.b = 0 := by simpa using h
                rw [h0]; decide
              rw [e1, e2, e3, e4, e5, hA, sameM_13]
              clear e1 e2 e3 e4 e5 hA
              generalize goodB r.k r.i r.f r.t r.a = g
              generalize inB r.b 0 9999 = a at hi ⊢
              generalize (r.b == 0) = p at hi ⊢
              generalize (r.v == 0) = b
              generalize (r.st == 0) = c
              generalize goodD n r.s r.l = d
              revert g a p b c d
              decide
            · have e1 : ballotB r = inB r.b 0 9999 := by unfold ballotB; rw [if_neg k5]
              have e5 : (r.kd == 5) = false := by simp; omega
              rw [e1, e2, e3, e4, e5, hA, sameM_13]
              clear e1 e2 e3 e4 e5 hA
              generalize goodB r.k r.i r.f r.t r.a = g
              generalize inB r.b 0 9999 = a
              generalize (r.b == 0) = p
              generalize (r.v == 0) = b
              generalize (r.st == 0) = c
              generalize goodD n r.s r.l = d
              revert g a p b c d
              decide
end Go.Proofs.YtbffkidkfannhaaGreat

namespace Go.Proofs.YtbffkidkfannhaaGreat
open Go.RowKit

/-- How many from the front are less. -/
def ahead (l : List Int) (n : Int) : Nat := (l.takeWhile fun x => decide (x < n)).length
def putI (l : List Int) (n : Int) : List Int := if l[ahead l n]? = some n then l else l.take (ahead l n) ++ [n] ++ l.drop (ahead l n)
theorem ahead_stop {l : List Int} {n : Int} {k : Nat} (hk : k < l.length) (ha : ∀ x ∈ l.take k, x < n) (hs : ¬ l[k] < n) : ahead l n = k := by
  induction l generalizing k with
  | nil => simp at hk
  | cons y l ih =>
    cases k with
    | zero => simp at hs; simp [ahead, List.takeWhile_cons]; omega
    | succ k =>
      have hy : y < n := ha y (by simp)
      have := ih (k := k) (by simpa using hk) (fun x hx => ha x (by simp [hx])) (by simpa using hs)
      unfold ahead at this ⊢
      rw [List.takeWhile_cons, if_pos (by simpa using hy), List.length_cons, this]
theorem ahead_all {l : List Int} {n : Int} (ha : ∀ x ∈ l, x < n) : ahead l n = l.length := by
  unfold ahead
  induction l with
  | nil => rfl
  | cons y l ih => rw [List.takeWhile_cons, if_pos (by simpa using ha y (by simp)), List.length_cons, ih (fun x hx => ha x (by simp [hx])), List.length_cons]

def PutR (v : Value) (l : List Int) (n : Int) (w : World) (e : Ending) (w' : World) : Prop :=
  ∃ v', e = .returned v' ∧ Ext w w' ∧ ((v' = v ∧ putI l n = l) ∨ Fresh w.heap.size w' v' (putI l n))

theorem Ints.behind {w : World} {cap : Nat} {l : List Int} {b off : Nat} (h : Ints w (.slice (some ⟨b, off, none⟩) l.length cap) l) (k : Nat) (hk : k ≤ l.length) : Ints w (.slice (some ⟨b, off + k, none⟩) (l.length - k) (cap - k)) (l.drop k) := by
  obtain ⟨ao', cap', he, hm, hcap, hc⟩ := h
  simp only [Value.slice.injEq] at he
  obtain ⟨rfl, _, rfl⟩ := he
  have e : (l.drop k).length = l.length - k := by simp
  refine ⟨some ⟨b, off + k, none⟩, cap - k, by rw [e], by omega, ⟨by have := hcap.1; omega, by have := hcap.2.1; omega, fun h => by cases h⟩, fun hp => ?_⟩
  obtain ⟨b', off', ha, hj⟩ := hc (by omega)
  cases ha
  refine ⟨b, off + k, rfl, fun j hjl => ?_⟩
  rw [Nat.add_assoc, hj (k + j) (by omega), List.getElem?_drop]
theorem Ints.none_of {w : World} {ao : Option Addr} {cap : Nat} (hc : cap ≤ maxLen) (h : ao = none → cap = 0) : Ints w (.slice ao 0 cap) [] :=
  ⟨ao, cap, rfl, by simp, ⟨by simp, hc, h⟩, fun h => by simp at h⟩

/-- The two ends of a cut. -/
theorem Ints.upto {w : World} {ao : Option Addr} {cap : Nat} {l : List Int} (h : Ints w (.slice ao l.length cap) l) (k : Nat) (hk : k ≤ l.length) : Ints w (.slice ao k cap) (l.take k) := by
  obtain ⟨ao', cap', he, hm, hcap, hc⟩ := h
  simp only [Value.slice.injEq] at he
  obtain ⟨rfl, _, rfl⟩ := he
  have e : (l.take k).length = k := by first | omega | (simp; omega)
  refine ⟨ao, cap, by rw [e], by omega, ⟨by omega, hcap.2⟩, fun hp => ?_⟩
  obtain ⟨b, off, ha, hj⟩ := hc (by omega)
  refine ⟨b, off, ha, fun j hjl => ?_⟩
  rw [hj j (by omega), List.getElem?_take, if_pos (by omega)]

end Go.Proofs.YtbffkidkfannhaaGreat

namespace Go.Proofs.YtbffkidkfannhaaGreat
open Go.RowKit
set_option linter.unusedVariables false

/-! ### Rising lists -/
/-- Strictly rising. -/
def Rises (l : List Int) : Prop := l.Pairwise (· < ·)
instance (l : List Int) : Decidable (Rises l) := inferInstanceAs (Decidable (List.Pairwise _ _))
/-- Whether numbers are rising, within bounds. -/
def riseB (l : List Int) (lo hi : Int) : Bool := decide (Rises l) && allIn l lo hi
theorem riseB_of {l : List Int} {lo hi : Int} (h : riseB l lo hi = true) : Rises l ∧ ∀ x ∈ l, lo ≤ x ∧ x ≤ hi := by
  unfold riseB allIn inB at h
  simpa using h
theorem riseB_yes {l : List Int} {lo hi : Int} (h : Rises l) (k : ∀ x ∈ l, lo ≤ x ∧ x ≤ hi) : riseB l lo hi = true := by
  unfold riseB allIn inB
  simpa using ⟨h, k⟩

theorem take_while (p : Int → Bool) : ∀ l : List Int, l.take (l.takeWhile p).length = l.takeWhile p
  | [] => rfl
  | x :: l => by
    cases h : p x
    · simp [h]
    · simp [h, take_while p l]
theorem mem_while (p : Int → Bool) : ∀ (l : List Int) (x : Int), x ∈ l.takeWhile p → p x = true
  | [], x, h => by simp at h
  | y :: l, x, h => by
    cases hy : p y
    · simp [hy] at h
    · rw [List.takeWhile_cons, if_pos hy] at h
      rcases List.mem_cons.1 h with rfl | h
      · exact hy
      · exact mem_while p l x h
theorem mem_ahead {l : List Int} {n x : Int} (h : x ∈ l.take (ahead l n)) : x < n := by
  unfold ahead at h
  rw [take_while] at h
  have := mem_while _ _ _ h
  simpa using this
theorem ahead_le (l : List Int) (n : Int) : ahead l n ≤ l.length := (List.takeWhile_sublist _).length_le
theorem at_ahead : ∀ (l : List Int) (n x : Int), l[ahead l n]? = some x → n ≤ x
  | [], n, x, h => by simp [ahead] at h
  | y :: l, n, x, h => by
    by_cases hy : y < n
    · have e : ahead (y :: l) n = ahead l n + 1 := by simp [ahead, hy]
      rw [e, List.getElem?_cons_succ] at h
      exact at_ahead l n x h
    · have e : ahead (y :: l) n = 0 := by simp [ahead, hy]
      rw [e] at h
      simp at h
      omega

theorem putI_mem (l : List Int) (n x : Int) : x ∈ putI l n ↔ x ∈ l ∨ x = n := by
  unfold putI
  by_cases h : l[ahead l n]? = some n
  · rw [if_pos h]
    constructor
    · exact Or.inl
    · rintro (h' | rfl)
      · exact h'
      · exact List.mem_of_getElem? h
  · rw [if_neg h]
    have e := List.take_append_drop (ahead l n) l
    constructor
    · intro hx
      rcases List.mem_append.1 hx with hx | hx
      · rcases List.mem_append.1 hx with hx | hx
        · exact .inl (List.mem_of_mem_take hx)
        · exact .inr (by simpa using hx)
      · exact .inl (List.mem_of_mem_drop hx)
    · rintro (hx | rfl)
      · rw [← e] at hx
        rcases List.mem_append.1 hx with hx | hx
        · exact List.mem_append_left _ (List.mem_append_left _ hx)
        · exact List.mem_append_right _ hx
      · simp
theorem putI_len {l : List Int} {n : Int} (h : n ∉ l) : (putI l n).length = l.length + 1 := by
  unfold putI
  rw [if_neg (fun e => h (List.mem_of_getElem? e))]
  have := ahead_le l n
  simp
  omega
theorem behind_ahead {l : List Int} {n x : Int} (hl : Rises l) (h : l[ahead l n]? ≠ some n) (hx : x ∈ l.drop (ahead l n)) : n < x := by
  obtain ⟨j, hj, rfl⟩ := List.getElem_of_mem hx
  have hjl : ahead l n + j < l.length := by simp at hj; omega
  rw [List.getElem_drop]
  have h0 : ahead l n < l.length := by omega
  have h1 : n ≤ l[ahead l n] := at_ahead l n _ (List.getElem?_eq_getElem h0)
  have h2 : n ≠ l[ahead l n] := fun e => h (by rw [List.getElem?_eq_getElem h0, ← e])
  rcases Nat.eq_zero_or_pos j with rfl | hp
  · show n < l[ahead l n + 0]
    simp only [Nat.add_zero]
    omega
  · have h3 : l[ahead l n] < l[ahead l n + j] := List.pairwise_iff_getElem.1 hl _ _ h0 hjl (by omega)
    omega
theorem putI_rises {l : List Int} (n : Int) (hl : Rises l) : Rises (putI l n) := by
  unfold putI
  by_cases h : l[ahead l n]? = some n
  · rw [if_pos h]; exact hl
  · rw [if_neg h]
    unfold Rises
    rw [List.pairwise_append, List.pairwise_append]
    refine ⟨⟨List.Pairwise.sublist (List.take_sublist _ _) hl, by simp, ?_⟩, List.Pairwise.sublist (List.drop_sublist _ _) hl, ?_⟩
    · intro a ha b hb
      obtain rfl : b = n := by simpa using hb
      exact mem_ahead ha
    · intro a ha b hb
      have hb' := behind_ahead hl h hb
      rcases List.mem_append.1 ha with ha | ha
      · have := mem_ahead ha; omega
      · obtain rfl : a = n := by simpa using ha
        exact hb'

theorem rises_ext : ∀ {a b : List Int}, Rises a → Rises b → (∀ x, x ∈ a ↔ x ∈ b) → a = b
  | [], [], _, _, _ => rfl
  | [], y :: b, _, _, h => by have := (h y).2 (by simp); simp at this
  | x :: a, [], _, _, h => by have := (h x).1 (by simp); simp at this
  | x :: a, y :: b, ha, hb, h => by
    have ha' := List.pairwise_cons.1 ha
    have hb' := List.pairwise_cons.1 hb
    have hxy : x = y := by
      have h1 := (h x).1 (by simp)
      have h2 := (h y).2 (by simp)
      rcases List.mem_cons.1 h1 with e | h1
      · exact e
      · rcases List.mem_cons.1 h2 with e | h2
        · exact e.symm
        · have := hb'.1 x h1; have := ha'.1 y h2; omega
    subst hxy
    have ht : a = b := rises_ext ha'.2 hb'.2 (fun z => by
      constructor
      · intro hz
        rcases List.mem_cons.1 ((h z).1 (List.mem_cons_of_mem _ hz)) with e | k
        · have := ha'.1 z hz; omega
        · exact k
      · intro hz
        rcases List.mem_cons.1 ((h z).2 (List.mem_cons_of_mem _ hz)) with e | k
        · have := hb'.1 z hz; omega
        · exact k)
    rw [ht]
theorem rises_len : ∀ {l : List Int} (lo hi : Int), Rises l → (∀ x ∈ l, lo ≤ x ∧ x < hi) → lo ≤ hi → (l.length : Int) ≤ hi - lo
  | [], lo, hi, _, _, h => by simp; omega
  | x :: l, lo, hi, hl, hb, h => by
    have hl' := List.pairwise_cons.1 hl
    have hx := hb x (by simp)
    have := rises_len (x + 1) hi hl'.2 (fun y hy => ⟨by have := hl'.1 y hy; omega, (hb y (List.mem_cons_of_mem _ hy)).2⟩) (by omega)
    simp only [List.length_cons]
    omega

/-! ### Graphs -/
/-- The points that a point leads to at once. -/
def rowG (g : List (List Int)) (p : Int) : List Int := if 0 ≤ p then g[p.toNat]?.getD [] else []
/-- Each list rising, of points of the graph. -/
def rowsB (g : List (List Int)) : Bool := g.all fun l => riseB l 0 ((g.length : Int) - 1)
def goodG (g : List (List Int)) : Bool := rowsB g && decide (g.length ≤ 40)

inductive Reach (g : List (List Int)) (a : Int) : Int → Prop
  | self : Reach g a a
  | step {b c : Int} : Reach g a b → c ∈ rowG g b → Reach g a c

theorem Reach.trans {g : List (List Int)} {a b c : Int} (h : Reach g a b) (k : Reach g b c) : Reach g a c := by
  induction k with
  | self => exact h
  | step _ hc ih => exact ih.step hc

theorem rowG_at {g : List (List Int)} {k : Nat} (h : k < g.length) : rowG g (k : Int) = g[k] := by
  unfold rowG
  rw [if_pos (by omega), Int.toNat_natCast, List.getElem?_eq_getElem h]
  rfl
theorem row_in {g : List (List Int)} (hg : rowsB g = true) {p c : Int} (h : c ∈ rowG g p) : 0 ≤ c ∧ c < g.length := by
  unfold rowG at h
  by_cases hp : 0 ≤ p
  · rw [if_pos hp] at h
    cases e : g[p.toNat]? with
    | none => rw [e] at h; simp at h
    | some l =>
      rw [e] at h
      have hl : riseB l 0 ((g.length : Int) - 1) = true := List.all_eq_true.1 hg l (List.mem_of_getElem? e)
      have := (riseB_of hl).2 c h
      omega
  · rw [if_neg hp] at h; simp at h
theorem reach_in {g : List (List Int)} (hg : rowsB g = true) {k x : Int} (hk : 0 ≤ k ∧ k < g.length) (h : Reach g k x) : 0 ≤ x ∧ x < g.length := by
  induction h with
  | self => exact hk
  | step _ hc _ => exact row_in hg hc

open Classical in
/-- All points that a point leads to, rising. -/
noncomputable def reachL (g : List (List Int)) (k : Int) : List Int := ((List.range g.length).map fun (i : Nat) => (i : Int)).filter fun x => decide (Reach g k x)

theorem range_rises (n : Nat) : Rises ((List.range n).map fun (i : Nat) => (i : Int)) := by
  unfold Rises
  rw [List.pairwise_map]
  exact List.pairwise_lt_range.imp (fun h => by omega)
theorem reachL_rises (g : List (List Int)) (k : Int) : Rises (reachL g k) := List.Pairwise.filter _ (range_rises _)
open Classical in
theorem reachL_mem {g : List (List Int)} (hg : rowsB g = true) {k : Int} (hk : 0 ≤ k ∧ k < g.length) (x : Int) : x ∈ reachL g k ↔ Reach g k x := by
  unfold reachL
  rw [List.mem_filter]
  constructor
  · rintro ⟨_, h⟩; exact of_decide_eq_true h
  · intro h
    have hx := reach_in hg hk h
    exact ⟨List.mem_map.2 ⟨x.toNat, by simp; omega, by omega⟩, decide_eq_true h⟩
theorem reachL_unique {g : List (List Int)} (hg : rowsB g = true) {k : Int} (hk : 0 ≤ k ∧ k < g.length) {l : List Int} (hl : Rises l) (h : ∀ x, x ∈ l ↔ Reach g k x) : l = reachL g k :=
  rises_ext hl (reachL_rises g k) (fun x => (h x).trans (reachL_mem hg hk x).symm)
theorem reachL_len (g : List (List Int)) (k : Int) : (reachL g k).length ≤ g.length := by
  have := List.length_filter_le (fun x => @decide (Reach g k x) (Classical.propDecidable _)) ((List.range g.length).map fun (i : Nat) => (i : Int))
  simpa [reachL] using this

/-! ### A search in breadth -/
/-- met are the points met, all that the first i of them lead to at once among them; out are the same, rising. -/
structure Srch (g : List (List Int)) (k : Int) (i : Nat) (met out : List Int) : Prop where
  first : k ∈ met
  reach : ∀ x ∈ met, Reach g k x
  shut : ∀ (j : Nat) (p : Int), j < i → met[j]? = some p → ∀ c ∈ rowG g p, c ∈ met
  rises : Rises out
  same : ∀ x, x ∈ out ↔ x ∈ met
  len : met.length = out.length

theorem Srch.start (g : List (List Int)) (k : Int) : Srch g k 0 [k] [k] :=
  ⟨by simp, fun x hx => by obtain rfl : x = k := by simpa using hx
                           exact .self, fun j p hj => by omega, by simp [Rises], fun x => Iff.rfl, rfl⟩
/-- Of the point that is looked at, the first j that it leads to are met. -/
def SrchAt (g : List (List Int)) (k : Int) (i j : Nat) (p : Int) (met out : List Int) : Prop :=
  Srch g k i met out ∧ met[i]? = some p ∧ ∀ c ∈ (rowG g p).take j, c ∈ met
theorem Srch.look {g : List (List Int)} {k : Int} {i : Nat} {met out : List Int} (h : Srch g k i met out) (hi : i < met.length) : SrchAt g k i 0 met[i] met out :=
  ⟨h, List.getElem?_eq_getElem hi, by simp⟩
theorem SrchAt.known {g : List (List Int)} {k p : Int} {i j : Nat} {met out : List Int} (h : SrchAt g k i j p met out) (hj : j < (rowG g p).length) (hm : (rowG g p)[j] ∈ met) : SrchAt g k i (j + 1) p met out := by
  refine ⟨h.1, h.2.1, fun c hc => ?_⟩
  rw [List.take_add_one, List.getElem?_eq_getElem hj] at hc
  rcases List.mem_append.1 hc with hc | hc
  · exact h.2.2 c hc
  · obtain rfl : c = (rowG g p)[j] := by simpa using hc
    exact hm
theorem SrchAt.add {g : List (List Int)} {k p : Int} {i j : Nat} {met out : List Int} (h : SrchAt g k i j p met out) (hj : j < (rowG g p).length) (hm : (rowG g p)[j] ∉ met) : SrchAt g k i (j + 1) p (met ++ [(rowG g p)[j]]) (putI out (rowG g p)[j]) := by
  obtain ⟨h, hp, hs⟩ := h
  have hi : i < met.length := (List.getElem?_eq_some_iff.1 hp).1
  refine ⟨⟨List.mem_append_left _ h.first, ?_, ?_, putI_rises _ h.rises, ?_, ?_⟩, ?_, ?_⟩
  · intro x hx
    rcases List.mem_append.1 hx with hx | hx
    · exact h.reach x hx
    · obtain rfl : x = (rowG g p)[j] := by simpa using hx
      exact (h.reach p (List.mem_of_getElem? hp)).step (List.getElem_mem hj)
  · intro j' q hj' hq c hc
    rw [List.getElem?_append_left (by omega)] at hq
    exact List.mem_append_left _ (h.shut j' q hj' hq c hc)
  · intro x
    rw [putI_mem, List.mem_append, h.same x]
    simp
  · rw [List.length_append, putI_len (fun e => hm ((h.same _).1 e)), h.len]
    rfl
  · rw [List.getElem?_append_left hi]; exact hp
  · intro c hc
    rw [List.take_add_one, List.getElem?_eq_getElem hj] at hc
    rcases List.mem_append.1 hc with hc | hc
    · exact List.mem_append_left _ (hs c hc)
    · exact List.mem_append_right _ (by simpa using hc)
theorem SrchAt.next {g : List (List Int)} {k p : Int} {i j : Nat} {met out : List Int} (h : SrchAt g k i j p met out) (hj : (rowG g p).length ≤ j) : Srch g k (i + 1) met out := by
  obtain ⟨h, hp, hs⟩ := h
  refine ⟨h.first, h.reach, fun j' q hj' hq c hc => ?_, h.rises, h.same, h.len⟩
  by_cases e : j' = i
  · subst e
    rw [hp] at hq
    cases hq
    exact hs c (by rw [List.take_of_length_le hj]; exact hc)
  · exact h.shut j' q (by omega) hq c hc
theorem Srch.small {g : List (List Int)} {k : Int} {i : Nat} {met out : List Int} (hg : rowsB g = true) (hk : 0 ≤ k ∧ k < g.length) (h : Srch g k i met out) : met.length ≤ g.length := by
  have := rises_len 0 g.length h.rises (fun x hx => by have := reach_in hg hk (h.reach x ((h.same x).1 hx)); omega) (by omega)
  have := h.len
  omega
theorem Srch.done {g : List (List Int)} {k : Int} {i : Nat} {met out : List Int} (hg : rowsB g = true) (hk : 0 ≤ k ∧ k < g.length) (h : Srch g k i met out) (hi : met.length ≤ i) : out = reachL g k := by
  refine reachL_unique hg hk h.rises (fun x => ⟨fun hx => h.reach x ((h.same x).1 hx), fun hx => (h.same x).2 ?_⟩)
  induction hx with
  | self => exact h.first
  | step _ hc ih =>
    obtain ⟨j, hj, e⟩ := List.getElem_of_mem ih
    exact h.shut j _ (by omega) (by rw [List.getElem?_eq_getElem hj, e]) _ hc

end Go.Proofs.YtbffkidkfannhaaGreat

namespace Go.Proofs.YtbffkidkfannhaaGreat
open Go.RowKit
set_option linter.unusedVariables false

theorem rises_take_succ {l : List Int} {k : Nat} (hk : k < l.length) (h : Rises (l.take k)) (hp : ∀ (h0 : 0 < k), l[k - 1] < l[k]) : Rises (l.take (k + 1)) := by
  unfold Rises
  rw [List.pairwise_iff_getElem]
  intro i j hi hj hij
  simp only [List.length_take] at hi hj
  rw [List.getElem_take, List.getElem_take]
  by_cases e : j = k
  · subst e
    have h0 := hp (by omega)
    by_cases e' : i = j - 1
    · subst e'; exact h0
    · have h1 := (List.pairwise_iff_getElem.1 h) i (j - 1) (by simp; omega) (by simp; omega) (by omega)
      rw [List.getElem_take, List.getElem_take] at h1
      omega
  · have h1 := (List.pairwise_iff_getElem.1 h) i j (by simp; omega) (by simp; omega) hij
    rwa [List.getElem_take, List.getElem_take] at h1
theorem riseB_out {l : List Int} {lo hi : Int} {k : Nat} (hk : k < l.length) (h : inB l[k] lo hi = false) : riseB l lo hi = false := by
  cases e : riseB l lo hi with
  | false => rfl
  | true =>
    have := (riseB_of e).2 _ (List.getElem_mem hk)
    rw [inB_yes this.1 this.2] at h
    cases h
theorem riseB_not {l : List Int} {lo hi : Int} {k : Nat} (hk : k + 1 < l.length) (h : ¬ l[k] < l[k + 1]) : riseB l lo hi = false := by
  cases e : riseB l lo hi with
  | false => rfl
  | true => exact absurd (List.pairwise_iff_getElem.1 (riseB_of e).1 k (k + 1) (by omega) hk (by omega)) h
theorem riseB_all {l : List Int} {lo hi : Int} (h : Rises (l.take l.length)) (k : (l.take l.length).all (fun x => inB x lo hi) = true) : riseB l lo hi = true := by
  rw [List.take_length] at h k
  unfold riseB allIn
  rw [k, decide_eq_true h]; rfl

set_option maxHeartbeats 800000 in
theorem l1Rising_any (v : Value) (l : List Int) (lo hi : Int) (w : World) (hv : Ints w v l) :
    Calls Tryz.prog 23 #[v, .int .i64 lo, .int .i64 hi] w (BoolExt (riseB l lo hi) w) := by
  obtain ⟨av, cv, rfl, hlv, _, hcv⟩ := hv
  unfold maxLen at hlv
  go_enter Tryz.func23, Tryz.ntmps23
  go_wp2
  go_loopw [7, 8, 11] (fun _ _ i wr => ∃ k : Nat, k ≤ l.length ∧ i = .int .i64 k ∧ (Rises (l.take k) ∧ (l.take k).all (fun x => inB x lo hi) = true) ∧ Ext w wr) (fun _ _ i _ => l.length - (intOf i).toNat)
  case atStart => exact ⟨0, Nat.zero_le _, rfl, ⟨by simp [Rises], by simp⟩, Ext.refl _⟩
  case round =>
    obtain ⟨k, hk, rfl, ht, hx⟩ := hrel
    have HT := Lib.hid ht
    clear ht
    by_cases hlt : k < l.length
    · obtain ⟨bv, ov, rfl, dv⟩ := hcv (by omega)
      have gv := hx.cell (dv k hlt)
      cases hp : inB l[k] lo hi with
      | false =>
        have HP := Lib.hid (riseB_out hlt hp)
        clear hcv dv
        go_wp2_with (go_at_call 41; refine (l1In_any _ _ _ _).mono ?_; rintro e w' ⟨rfl, rfl⟩)
        go_ret
        exact ⟨by rw [HP.out]; rfl, hx⟩
      | true =>
        rcases Nat.eq_zero_or_pos k with h0 | h0
        · have e0 : ¬ ((0 : Int) < (k : Int)) := by omega
          have H0 := Lib.hid h0
          clear hcv dv h0
          go_wp2_with (go_at_call 41; refine (l1In_any _ _ _ _).mono ?_; rintro e w' ⟨rfl, rfl⟩)
          go_roundw
          case rel => exact ⟨k + 1, by omega, by go_num, ⟨rises_take_succ hlt HT.out.1 (fun h => by have := H0.out; omega), all_take_succ hlt _ HT.out.2 (by simpa [hlt] using hp)⟩, hx⟩
          case measure => simp [intOf]; omega
        · obtain ⟨j, hj⟩ : ∃ j, j = k - 1 := ⟨_, rfl⟩
          have hjl : j < l.length := by omega
          have gp := hx.cell (dv j hjl)
          rw [List.getElem?_eq_getElem hjl] at gp
          have e1 : (k : Int) - 1 = (j : Int) := by omega
          have e0 : (0 : Int) < (k : Int) := by omega
          have HJ := Lib.hid hj
          clear hcv dv hj h0
          by_cases hr : l[j] < l[k]
          · have e2 : ¬ (l[k] ≤ l[j]) := by omega
            go_wp2_with (go_at_call 41; refine (l1In_any _ _ _ _).mono ?_; rintro e w' ⟨rfl, rfl⟩)
            go_roundw
            case rel => exact ⟨k + 1, by omega, by go_num, ⟨rises_take_succ hlt HT.out.1 (fun _ => by have := HJ.out; subst this; exact hr), all_take_succ hlt _ HT.out.2 (by simpa [hlt] using hp)⟩, hx⟩
            case measure => simp [intOf]; omega
          · have e2 : l[k] ≤ l[j] := by omega
            have hP : riseB l lo hi = false := by
              have hjk : k = j + 1 := by omega
              subst hjk
              exact riseB_not hlt hr
            have HP := Lib.hid hP
            clear hP
            go_wp2_with (go_at_call 41; refine (l1In_any _ _ _ _).mono ?_; rintro e w' ⟨rfl, rfl⟩)
            go_ret
            exact ⟨by rw [HP.out]; rfl, hx⟩
    · obtain rfl : k = l.length := by omega
      have HP := Lib.hid (riseB_all HT.out.1 HT.out.2)
      go_wp2
      go_ret
      exact ⟨by rw [HP.out]; rfl, hx⟩

end Go.Proofs.YtbffkidkfannhaaGreat

namespace Go.Proofs.YtbffkidkfannhaaGreat
open Go.RowKit

set_option maxHeartbeats 400000 in
theorem l1Has_any (v : Value) (l : List Int) (n : Int) (w : World) (hv : Ints w v l) :
    Calls Tryz.prog 91 #[v, .int .i64 n] w (BoolExt (hasI l n) w) := by
  obtain ⟨av, cv, rfl, hlv, _, hcv⟩ := hv
  unfold maxLen at hlv
  go_enter Tryz.func91, Tryz.ntmps91
  go_wp2
  go_loopw [6, 9] (fun _ i wr => ∃ k : Nat, k ≤ l.length ∧ i = .int .i64 k ∧ (l.take k).any (fun x => x == n) = false ∧ Ext w wr) (fun _ i _ => l.length - (intOf i).toNat)
  case atStart => exact ⟨0, Nat.zero_le _, rfl, by simp, Ext.refl _⟩
  case round =>
    obtain ⟨k, hk, rfl, ht, hx⟩ := hrel
    have HT := Lib.hid ht
    clear ht
    by_cases hlt : k < l.length
    · obtain ⟨bv, ov, rfl, dv⟩ := hcv (by omega)
      have gv := hx.cell (dv k hlt)
      clear hcv dv
      cases hp : (l[k] == n) with
      | true =>
        go_wp2
        go_ret
        refine ⟨?_, hx⟩
        have hf : hasI l n = true := any_true_at hlt _ (by rw [List.getElem?_eq_getElem hlt]; exact hp)
        rw [hf]; rfl
      | false =>
        go_wp2
        go_roundw
        case rel => exact ⟨k + 1, by omega, by go_num, any_take_succ hlt _ HT.out (by rw [List.getElem?_eq_getElem hlt]; exact hp), hx⟩
        case measure => simp [intOf]; omega
    · obtain rfl : k = l.length := by omega
      go_wp2
      go_ret
      refine ⟨?_, hx⟩
      have hf : hasI l n = false := by have h := HT.out; rwa [List.take_length] at h
      rw [hf]; rfl

end Go.Proofs.YtbffkidkfannhaaGreat
