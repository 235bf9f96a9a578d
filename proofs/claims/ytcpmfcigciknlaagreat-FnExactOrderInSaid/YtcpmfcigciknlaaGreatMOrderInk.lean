/- Texts of this proof, part k: words, plain facts, contracts. -/
import Derived.Test.YtcpmfcigciknlaaGreatMOrderInj
import Derived.Test.YtcpmfcigciknlaaGreatMOrderIng
import Derived.Test.YtcpmfcigciknlaaGreatMOrderIne
import Derived.Test.YtcpmfcigciknlaaGreatMOrderInd
import Derived.Deep.DeepCutAuto
import Derived.Deep.RegionWith
import Derived.Deep.RegionHeld3

namespace Go.Proofs.YtcpmfcigciknlaaGreat
open Go.RowKit
set_option linter.unusedVariables false

/-! ### Lists of unlike numbers -/
/-- As many numbers as points, each met: they are unlike, and points; and the other way round. -/
theorem unlike_iff (l : List Int) (n : Nat) : unlikeB l n n = true ↔ l.length = n ∧ ∀ k : Nat, k < n → (k : Int) ∈ l := by
  have hu : unlikeB l n n = true ↔ l.length = n ∧ (∀ x ∈ l, 0 ≤ x ∧ x < (n : Int)) ∧ l.Nodup := by
    unfold unlikeB allIn
    rw [Bool.and_eq_true, Bool.and_eq_true, decide_eq_true_iff, decide_eq_true_iff, List.all_eq_true]
    constructor
    · rintro ⟨h1, h2, h3⟩
      refine ⟨by omega, fun x hx => ?_, h3⟩
      have := h2 x hx
      unfold inB at this
      simp at this
      omega
    · rintro ⟨h1, h2, h3⟩
      exact ⟨by omega, fun x hx => inB_yes (h2 x hx).1 (by have := (h2 x hx).2; omega), h3⟩
  rw [hu]
  constructor
  · rintro ⟨h1, h2, h3⟩
    refine ⟨h1, fun k hk => ?_⟩
    have hp := (perm_of_covers l (rangeI n) h3 (fun x hx => (rangeI_mem n x).2 (h2 x hx))).2 (by rw [rangeI_len]; exact h1)
    exact hp.mem_iff.1 ((rangeI_mem n k).2 (by omega))
  · rintro ⟨h1, h2⟩
    have hp := (perm_of_covers (rangeI n) l (rangeI_nodup n) (fun x hx => by
      have := (rangeI_mem n x).1 hx
      have := h2 x.toNat (by omega)
      rwa [Int.toNat_of_nonneg (by omega)] at this)).2 (by rw [rangeI_len]; exact h1.symm)
    exact ⟨h1, fun x hx => (rangeI_mem n x).1 (hp.mem_iff.1 hx), hp.nodup_iff.2 (rangeI_nodup n)⟩

/-! ### Where a point stands -/
theorem placeFrom_spec : ∀ (l : List Int) (p : Int) (k : Nat), (p ∉ l ∧ placeFrom l p k = -1) ∨ ∃ j : Nat, l[j]? = some p ∧ placeFrom l p k = (k : Int) + j ∧ ∀ i : Nat, i < j → l[i]? ≠ some p
  | [], p, k => .inl ⟨by simp, rfl⟩
  | a :: l, p, k => by
    unfold placeFrom
    by_cases e : a = p
    · right
      refine ⟨0, by simp [e], by rw [if_pos e]; simp, fun i hi => by omega⟩
    · rw [if_neg e]
      rcases placeFrom_spec l p (k + 1) with ⟨h1, h2⟩ | ⟨j, h1, h2, h3⟩
      · left
        exact ⟨by simp [h1]; omega, h2⟩
      · right
        refine ⟨j + 1, by simpa using h1, by rw [h2]; omega, fun i hi => ?_⟩
        cases i with
        | zero => simp [e]
        | succ i => simpa using h3 i (by omega)
theorem placeI_none {l : List Int} {p : Int} : placeI l p < 0 ↔ p ∉ l := by
  unfold placeI
  rcases placeFrom_spec l p 0 with ⟨h1, h2⟩ | ⟨j, h1, h2, _⟩
  · rw [h2]; simp [h1]
  · have := List.mem_of_getElem? h1
    constructor
    · intro h; omega
    · intro h; exact absurd this h
theorem placeI_at {l : List Int} (hn : l.Nodup) {j : Nat} {p : Int} (h : l[j]? = some p) : placeI l p = (j : Int) := by
  unfold placeI
  rcases placeFrom_spec l p 0 with ⟨h1, h2⟩ | ⟨i, h1, h2, _⟩
  · exact absurd (List.mem_of_getElem? h) h1
  · rw [h2]
    obtain ⟨a1, e1⟩ := List.getElem?_eq_some_iff.1 h
    obtain ⟨a2, e2⟩ := List.getElem?_eq_some_iff.1 h1
    have := (List.getElem_inj (h₀ := a1) (h₁ := a2) hn).1 (by rw [e1, e2])
    omega
theorem placeI_inj {l : List Int} {p q : Int} (hp : p ∈ l) (h : placeI l p = placeI l q) : p = q := by
  unfold placeI at h
  rcases placeFrom_spec l p 0 with ⟨h1, _⟩ | ⟨i, h1, h2, _⟩
  · exact absurd hp h1
  · rcases placeFrom_spec l q 0 with ⟨_, k2⟩ | ⟨j, k1, k2, _⟩
    · rw [h2, k2] at h; omega
    · rw [h2, k2] at h
      have : i = j := by omega
      rw [this, k1] at h1
      exact (Option.some.inj h1).symm

/-! ### The two ways to say it -/
/-- The points of G stand side by side, as G has them. -/
def sideB (P : Int → Int) (G : List Int) : Bool := (List.range G.length).all fun k => decide (P (G[k]?.getD 0) = P (G[0]?.getD 0) + k)
/-- What leads to nothing of its own group stands ahead. -/
noncomputable def edgeO (g : List (List Int)) (P : Int → Int) (p : Int) : Bool := (rowG g p).all fun n => hasI (reachL g n) p || decide (¬ P n > P p)
noncomputable def ordM (g : List (List Int)) (key l : List Int) : Bool :=
  ((rangeI g.length).all (edgeO g (placeI l))) && (groupsL g).all fun G => sideB (placeI l) (byKeyL (keyAt key) G)
/-- Nothing that a point of the group leads to stands behind its last. -/
def lastI (G : List Int) : Int := G[G.length - 1]?.getD 0
def behindB (g : List (List Int)) (P : Int → Int) (p last : Int) : Bool := (rowG g p).any fun n => decide (P n > P last)
def stepB (g : List (List Int)) (P : Int → Int) (G : List Int) (k : Nat) : Bool := decide (P (G[k]?.getD 0) = P (G[0]?.getD 0) + k) && !behindB g P (G[k]?.getD 0) (lastI G)
def blockB (g : List (List Int)) (P : Int → Int) (G : List Int) : Bool := (List.range G.length).all (stepB g P G)
noncomputable def ordP (g : List (List Int)) (key l : List Int) : Bool := ((compsL g).map (byKeyL (keyAt key))).all (blockB g (placeI l))

theorem row_getD {G : List Int} {k : Nat} (h : k < G.length) : G[k]?.getD 0 = G[k] := by rw [List.getElem?_eq_getElem h]; rfl
theorem ord_same {g : List (List Int)} {key l : List Int} (hg : rowsB g = true) (hl : unlikeB l g.length g.length = true) : ordP g key l = ordM g key l := by
  obtain ⟨hlen, hall⟩ := (unlike_iff l g.length).1 hl
  have hin : ∀ x : Int, 0 ≤ x ∧ x < (g.length : Int) → x ∈ l := fun x hx => by
    have := hall x.toNat (by omega)
    rwa [Int.toNat_of_nonneg hx.1] at this
  obtain ⟨P, hP⟩ : ∃ P, P = placeI l := ⟨_, rfl⟩
  have inj : ∀ p q, 0 ≤ p ∧ p < (g.length : Int) → P p = P q → p = q := fun p q hp h => by rw [hP] at h; exact placeI_inj (hin p hp) h
  obtain ⟨F, hF⟩ : ∃ F, F = byKeyL (keyAt key) := ⟨_, rfl⟩
  have hperm : ∀ G, (F G).Perm G := fun G => by rw [hF]; exact byKeyL_perm _ G
  unfold ordP ordM
  rw [← hP, ← hF]
  rw [Bool.eq_iff_iff, Bool.and_eq_true, List.all_eq_true, List.all_eq_true, List.all_eq_true]
  constructor
  · intro h
    have hb : ∀ G, G ∈ groupsL g → ∀ k, k < (F G).length → P ((F G)[k]?.getD 0) = P ((F G)[0]?.getD 0) + k ∧ ∀ n ∈ rowG g ((F G)[k]?.getD 0), ¬ P n > P (lastI (F G)) := fun G hG k hk => by
      have h1 := h (F G) (List.mem_map.2 ⟨G, (compsL_iff hg G).2 hG, rfl⟩)
      unfold blockB at h1
      have h2 := List.all_eq_true.1 h1 k (List.mem_range.2 hk)
      unfold stepB at h2
      rw [Bool.and_eq_true, decide_eq_true_iff, Bool.not_eq_true'] at h2
      refine ⟨h2.1, fun n hn hgt => ?_⟩
      have h3 := h2.2
      unfold behindB at h3
      rw [List.any_eq_false] at h3
      exact h3 n hn (by simpa using hgt)
    refine ⟨fun p hp => ?_, fun G hG => ?_⟩
    · have hpr := (rangeI_mem g.length p).1 hp
      unfold edgeO
      rw [List.all_eq_true]
      intro n hn
      rw [Bool.or_eq_true]
      by_cases hr : hasI (reachL g n) p = true
      · exact .inl hr
      · right
        rw [decide_eq_true_iff]
        intro hgt
        have hnr := row_in hg hn
        have hG : groupL g p ∈ groupsL g := (groupsL_mem hg _).2 ⟨p.toNat, by omega, by congr 1; omega⟩
        have hpG : p ∈ F (groupL g p) := (hperm _).mem_iff.2 (groupL_self hg hpr)
        obtain ⟨k, hk, hkp⟩ := List.getElem_of_mem hpG
        obtain ⟨h1, h2⟩ := hb _ hG k hk
        rw [row_getD hk, hkp] at h1 h2
        have h3 := h2 n hn
        have hm : 0 < (F (groupL g p)).length := by omega
        have h4 := (hb _ hG ((F (groupL g p)).length - 1) (by omega)).1
        unfold lastI at h3
        have hj : ∃ j : Nat, j < (F (groupL g p)).length ∧ P n = P ((F (groupL g p))[0]?.getD 0) + j := ⟨(P n - P ((F (groupL g p))[0]?.getD 0)).toNat, by omega, by omega⟩
        obtain ⟨j, hj1, hj2⟩ := hj
        rw [← (hb _ hG j hj1).1, row_getD hj1] at hj2
        have he := inj n _ hnr hj2
        have hnG : n ∈ groupL g p := (hperm _).mem_iff.1 (by rw [he]; exact List.getElem_mem hj1)
        have hr2 := ((groupL_mem hg hpr n).1 hnG).2
        exact hr ((hasI_mem _ _).2 ((reachL_mem hg hnr p).2 hr2))
    · unfold sideB
      rw [List.all_eq_true]
      intro k hk
      rw [decide_eq_true_iff]
      exact (hb G hG k (List.mem_range.1 hk)).1
  · rintro ⟨h1, h2⟩ D hD
    obtain ⟨G, hG, rfl⟩ := List.mem_map.1 hD
    have hG := (compsL_iff hg G).1 hG
    have hs : ∀ k, k < (F G).length → P ((F G)[k]?.getD 0) = P ((F G)[0]?.getD 0) + k := fun k hk => by
      have h3 := h2 G hG
      unfold sideB at h3
      exact of_decide_eq_true (List.all_eq_true.1 h3 k (List.mem_range.2 hk))
    unfold blockB
    rw [List.all_eq_true]
    intro k hk
    have hk := List.mem_range.1 hk
    unfold stepB
    rw [Bool.and_eq_true, decide_eq_true_iff, Bool.not_eq_true']
    refine ⟨hs k hk, ?_⟩
    unfold behindB
    rw [List.any_eq_false]
    intro n hn hgt
    have hgt : P n > P (lastI (F G)) := by simpa using hgt
    rw [row_getD hk] at hn
    obtain ⟨q, hq, hGq⟩ := (groupsL_mem hg G).1 hG
    have hp : (F G)[k] ∈ G := (hperm G).mem_iff.1 (List.getElem_mem hk)
    have hgq : ∀ x ∈ G, x ∈ groupL g (q : Int) := fun x hx => by rw [← hGq]; exact hx
    have hpr : 0 ≤ (F G)[k] ∧ (F G)[k] < (g.length : Int) := groupL_in hg (by omega) (hgq _ hp)
    have hnr := row_in hg hn
    have hlast : P (lastI (F G)) = P ((F G)[0]?.getD 0) + ((F G).length - 1 : Nat) := by unfold lastI; exact hs _ (by omega)
    have hkk := hs k hk
    rw [row_getD hk] at hkk
    have h3 := h1 (F G)[k] ((rangeI_mem _ _).2 hpr)
    unfold edgeO at h3
    have h4 := List.all_eq_true.1 h3 n hn
    rw [Bool.or_eq_true, decide_eq_true_iff] at h4
    rcases h4 with h4 | h4
    · have hr := (reachL_mem hg hnr _).1 ((hasI_mem _ _).1 h4)
      have hpe : Reach g (F G)[k] n := Reach.self.step hn
      have hsame : groupL g (F G)[k] = G := (groupL_same hg (by omega) (hgq _ hp)).trans hGq.symm
      have hnG : n ∈ G := by rw [← hsame]; exact (groupL_mem hg hpr n).2 ⟨hpe, hr⟩
      obtain ⟨j, hj, hjn⟩ := List.getElem_of_mem ((hperm G).mem_iff.2 hnG)
      have := hs j hj
      rw [row_getD hj, hjn] at this
      omega
    · omega

end Go.Proofs.YtcpmfcigciknlaaGreat

namespace Go.Proofs.YtcpmfcigciknlaaGreat
open Go.RowKit
set_option linter.unusedVariables false

theorem orderL_perm {g : List (List Int)} (hg : rowsB g = true) (key : List Int) : (orderL g key).Perm (rangeI g.length) := by
  have hnd : (orderL g key).Nodup := by
    unfold orderL
    rw [List.flatMap_def]
    unfold List.Nodup
    rw [List.pairwise_flatten]
    refine ⟨fun l hl => ?_, ?_⟩
    · obtain ⟨G, hG, rfl⟩ := List.mem_map.1 hl
      have hr := compsL_rises' hg hG
      exact (byKeyL_perm _ G).nodup_iff.2 (hr.imp (fun h => by omega))
    · rw [List.pairwise_map]
      refine (compsL_apart hg).imp (fun {G H} h x hx y hy e => ?_)
      have h1 := (byKeyL_perm (keyAt key) G).mem_iff.1 hx
      have h2 := (byKeyL_perm (keyAt key) H).mem_iff.1 hy
      rw [e] at h1
      exact h y h1 h2
  have hmem : ∀ x, x ∈ orderL g key ↔ x ∈ rangeI g.length := fun x => by
    unfold orderL
    rw [List.mem_flatMap, rangeI_mem]
    constructor
    · rintro ⟨G, hG, hx⟩
      exact compsL_in hg hG x ((byKeyL_perm _ G).mem_iff.1 hx)
    · intro hx
      obtain ⟨H, hH, hxH⟩ := compsL_covers hg hx
      exact ⟨H, hH, (byKeyL_perm _ H).mem_iff.2 hxH⟩
  have h1 := perm_of_covers (orderL g key) (rangeI g.length) hnd (fun x hx => (hmem x).1 hx)
  have h2 := perm_of_covers (rangeI g.length) (orderL g key) (rangeI_nodup _) (fun x hx => (hmem x).2 hx)
  exact (h1.2 (by omega)).symm
theorem orderL_unlike {g : List (List Int)} (hg : rowsB g = true) (key : List Int) : unlikeB (orderL g key) g.length g.length = true := by
  rw [unlike_iff]
  have hp := orderL_perm hg key
  exact ⟨by rw [hp.length_eq, rangeI_len], fun k hk => hp.mem_iff.2 ((rangeI_mem _ _).2 (by omega))⟩

/-- The order that is told is one. -/
theorem orderL_is {g : List (List Int)} (hg : rowsB g = true) (key : List Int) : ordP g key (orderL g key) = true := by
  unfold ordP
  rw [List.all_eq_true]
  intro D hD
  obtain ⟨G, hG, rfl⟩ := List.mem_map.1 hD
  obtain ⟨pre, post, hsplit⟩ := List.append_of_mem hG
  have hfree := compsC_free g _ _ pre post G hsplit
  obtain ⟨F, hF⟩ : ∃ F, F = byKeyL (keyAt key) := ⟨_, rfl⟩
  have hFp : ∀ H, (F H).Perm H := fun H => by rw [hF]; exact byKeyL_perm _ H
  have ho : orderL g key = pre.flatMap F ++ (F G ++ post.flatMap F) := by
    unfold orderL
    rw [hsplit, List.flatMap_append, List.flatMap_cons, hF]
  have hnd : (orderL g key).Nodup := (orderL_perm hg key).nodup_iff.2 (rangeI_nodup _)
  rw [← hF]
  obtain ⟨o, hoo⟩ : ∃ o, o = orderL g key := ⟨_, rfl⟩
  rw [← hoo] at ho hnd ⊢
  have hat : ∀ k (hk : k < (F G).length), placeI o (F G)[k] = ((pre.flatMap F).length + k : Nat) := fun k hk => by
    refine placeI_at hnd ?_
    rw [ho, List.getElem?_append_right (by omega), Nat.add_sub_cancel_left, List.getElem?_append_left hk, List.getElem?_eq_getElem hk]
  have hpre : ∀ x ∈ pre.flatMap F, placeI o x < ((pre.flatMap F).length : Int) := fun x hx => by
    obtain ⟨j, hj, e⟩ := List.getElem_of_mem hx
    have := placeI_at hnd (j := j) (p := x) (by rw [ho, List.getElem?_append_left hj, List.getElem?_eq_getElem hj, e])
    omega
  unfold blockB
  rw [List.all_eq_true]
  intro k hk
  have hk := List.mem_range.1 hk
  unfold stepB
  rw [Bool.and_eq_true, decide_eq_true_iff, Bool.not_eq_true', row_getD hk, row_getD (show 0 < (F G).length by omega), hat k hk, hat 0 (by omega)]
  refine ⟨by omega, ?_⟩
  unfold behindB
  rw [List.any_eq_false]
  intro n hn hgt
  have hgt : placeI o n > placeI o (lastI (F G)) := by simpa using hgt
  unfold lastI at hgt
  rw [row_getD (show (F G).length - 1 < (F G).length by omega), hat _ (by omega)] at hgt
  have hpG : (F G)[k] ∈ G := (hFp G).mem_iff.1 (List.getElem_mem hk)
  have hnr := row_in hg hn
  obtain ⟨H, hH, hnH⟩ := compsL_covers hg hnr
  rw [hsplit] at hH
  rcases List.mem_append.1 hH with hH | hH
  · have := hpre n (List.mem_flatMap.2 ⟨H, hH, (hFp H).mem_iff.2 hnH⟩)
    omega
  · rcases List.mem_cons.1 hH with rfl | hH
    · obtain ⟨j, hj, e⟩ := List.getElem_of_mem ((hFp H).mem_iff.2 hnH)
      have := hat j hj
      rw [e] at this
      omega
    · exact hfree _ hpG n hn H hH hnH

end Go.Proofs.YtcpmfcigciknlaaGreat

namespace Go.Proofs.YtcpmfcigciknlaaGreat
open Go.RowKit
set_option linter.unusedVariables false

noncomputable def lessR (n : Int) (T : List (List RowD)) (p : Nat) : List RowD := (List.range (T[p]?.getD []).length).map fun q => if readyB n T p q then rowOf n T p q else emptyR n
noncomputable def lessT (n : Int) (T : List (List RowD)) : List (List RowD) := (List.range T.length).map (lessR n T)
theorem lessT_len (n : Int) (T : List (List RowD)) : (lessT n T).length = T.length := by simp [lessT]
theorem lessT_get {n : Int} {T : List (List RowD)} {p : Nat} (h : p < T.length) : (lessT n T)[p]? = some (lessR n T p) := by simp [lessT, h]
theorem lessR_len {n : Int} {T : List (List RowD)} {p : Nat} (h : p < T.length) : (lessR n T p).length = T[p].length := by simp [lessR, List.getElem?_eq_getElem h]
theorem lessR_get {n : Int} {T : List (List RowD)} {p q : Nat} (h : p < T.length) (hq : q < T[p].length) : (lessR n T p)[q]? = some (if readyB n T p q then rowOf n T p q else emptyR n) := by
  unfold lessR
  rw [List.getElem?_eq_getElem h, Option.getD_some, List.getElem?_map, List.getElem?_range hq]
  rfl
theorem less_rowOf {n : Int} {T : List (List RowD)} {p : Nat} (hp : p < T.length) (q : Nat) : rowOf n (lessT n T) p q = if readyB n T p q then rowOf n T p q else emptyR n := by
  by_cases hq : q < T[p].length
  · unfold rowOf
    rw [lessT_get hp, Option.getD_some, lessR_get hp hq, Option.getD_some]
    rfl
  · have hr : readyB n T p q = false := by
      cases e : readyB n T p q with
      | false => rfl
      | true =>
        obtain ⟨hp', hq', _⟩ := instCom_lt (readyB_com e)
        omega
    rw [hr]
    unfold rowOf
    rw [lessT_get hp, Option.getD_some, List.getElem?_eq_none (by rw [lessR_len hp]; omega)]
    rfl
theorem less_com {n : Int} {T : List (List RowD)} (p q : Nat) : instCom (lessT n T) p q = readyB n T p q := by
  by_cases hp : p < T.length
  · by_cases hq : q < T[p].length
    · unfold instCom
      rw [lessT_get hp, Option.getD_some, lessR_get hp hq]
      cases e : readyB n T p q with
      | false => rw [if_neg (by simp)]; rfl
      | true =>
        rw [if_pos rfl]
        obtain ⟨hp', hq', hs⟩ := instCom_lt (readyB_com e)
        show ((rowOf n T p q).st == 3) = true
        rw [rowOf_in hp hq, hs]
        rfl
    · have h1 : instCom (lessT n T) p q = false := by
        unfold instCom
        rw [lessT_get hp, Option.getD_some, List.getElem?_eq_none (by rw [lessR_len hp]; omega)]
      rw [h1]
      cases e : readyB n T p q with
      | false => rfl
      | true =>
        obtain ⟨hp', hq', _⟩ := instCom_lt (readyB_com e)
        omega
  · have h1 : instCom (lessT n T) p q = false := by
      have e0 : (lessT n T)[p]? = none := List.getElem?_eq_none (by rw [lessT_len]; omega)
      unfold instCom
      rw [e0]
      rfl
    rw [h1]
    cases e : readyB n T p q with
    | false => rfl
    | true =>
      obtain ⟨hp', _⟩ := instCom_lt (readyB_com e)
      omega
theorem less_insts (n : Int) (T : List (List RowD)) : insts (lessT n T) = readyL n T :=
  readyL_of (insts_lex _) (fun x => by rw [mem_insts, less_com])
theorem goodRow_emptyR {n : Int} (h : isGrp n = true) : goodRow n (emptyR n) = true := by
  rcases isGrp_of h with rfl | rfl <;> decide
theorem less_good {n : Int} {T : List (List RowD)} (hg : goodTab n T = true) : goodTab n (lessT n T) = true := by
  obtain ⟨h1, h2, h3⟩ := goodTab_of hg
  rw [goodTab_all h1 (by rw [lessT_len]; exact h2), List.all_eq_true]
  intro R hR
  obtain ⟨p, hp, rfl⟩ := List.mem_map.1 hR
  have hp := List.mem_range.1 hp
  have hl := (h3 _ (List.getElem_mem hp)).1
  rw [goodList_all (by rw [lessR_len hp]; exact hl), List.all_eq_true]
  intro r hr
  obtain ⟨q, hq, rfl⟩ := List.mem_map.1 hr
  have hq := List.mem_range.1 hq
  rw [List.getElem?_eq_getElem hp, Option.getD_some] at hq
  split
  · rw [rowOf_in hp hq]; exact (goodTab_row hg hp hq).1
  · exact goodRow_emptyR h1
theorem mem_readyL {n : Int} {T : List (List RowD)} {x : Nat × Nat} : x ∈ readyL n T ↔ readyB n T x.1 x.2 = true := by
  rw [← less_insts, mem_insts, less_com]
theorem less_graph {n : Int} {T : List (List RowD)} : graphP n (lessT n T) (readyL n T) = graphP n T (readyL n T) := by
  unfold graphP
  refine List.map_congr_left fun x hx => ?_
  have hr := mem_readyL.1 hx
  obtain ⟨hp, hq, _⟩ := instCom_lt (readyB_com hr)
  have e : rowOf n (lessT n T) x.1 x.2 = rowOf n T x.1 x.2 := by rw [less_rowOf hp, if_pos hr]
  unfold rowE edgeB
  rw [e]

/-- The keys of instances. -/
def keyOf1 (n : Int) (T : List (List RowD)) (x : Nat × Nat) : Int := 100 * (rowOf n T x.1 x.2).s + 10 * (x.1 : Int) + ((x.2 : Int) + 1)
def keysP (n : Int) (T : List (List RowD)) (L : List (Nat × Nat)) : List Int := L.map (keyOf1 n T)
theorem rowE_rises (n : Int) (T : List (List RowD)) (L : List (Nat × Nat)) (x : Nat × Nat) (k m : Nat) (h : k ≤ m) : riseB (rowE n T L x k) 0 ((m : Int) - 1) = true := by
  unfold riseB allIn
  rw [Bool.and_eq_true]
  constructor
  · first
      | (rw [List.all_eq_true]
         intro y hy
         obtain ⟨j, hj, rfl⟩ := List.mem_map.1 hy
         have := List.mem_range.1 (List.mem_filter.1 hj).1
         exact inB_yes (by omega) (by omega))
      | (refine decide_eq_true ?_
         unfold Rises rowE
         rw [List.pairwise_map]
         exact (List.pairwise_lt_range.filter _).imp fun h => by omega)
  · first
      | (refine decide_eq_true ?_
         unfold Rises rowE
         rw [List.pairwise_map]
         exact (List.pairwise_lt_range.filter _).imp fun h => by omega)
      | (rw [List.all_eq_true]
         intro y hy
         obtain ⟨j, hj, rfl⟩ := List.mem_map.1 hy
         have := List.mem_range.1 (List.mem_filter.1 hj).1
         exact inB_yes (by omega) (by omega))
theorem seq_in {n : Int} {T : List (List RowD)} (hg : goodTab n T = true) {x : Nat × Nat} (hc : instCom T x.1 x.2 = true) : 0 ≤ (rowOf n T x.1 x.2).s ∧ (rowOf n T x.1 x.2).s ≤ 999 := by
  obtain ⟨hp, hq, hs⟩ := instCom_lt hc
  rw [rowOf_in hp hq]
  have h := (goodTab_row hg hp hq).1
  unfold goodRow at h
  simp only [Bool.and_eq_true] at h
  have h2 := h.2
  rw [hs] at h2
  rw [if_neg (by decide)] at h2
  unfold fullB at h2
  simp only [Bool.and_eq_true] at h2
  have h3 := (goodD_of h2.2).1
  unfold inB at h3
  simpa using h3
theorem keysP_good {n : Int} {T : List (List RowD)} (hg : goodTab n T = true) : keysB (graphP n T (readyL n T)) (keysP n T (readyL n T)) = true := by
  have hl := readyL_short hg
  have hgl : (graphP n T (readyL n T)).length = (readyL n T).length := by simp [graphP]
  have h56 := goodTab_both hg
  have hin : ∀ x ∈ readyL n T, x.1 ≤ 4 ∧ x.2 ≤ 5 ∧ 0 ≤ (rowOf n T x.1 x.2).s ∧ (rowOf n T x.1 x.2).s ≤ 999 := fun x hx => by
    have hc := readyB_com (mem_readyL.1 hx)
    have h1 := inT_low h56.1 h56.2 (instCom_inT hc)
    exact ⟨h1.1, h1.2, seq_in hg hc⟩
  unfold keysB goodG rowsB
  simp only [Bool.and_eq_true, decide_eq_true_eq]
  refine ⟨⟨?_, by omega⟩, by rw [hgl]; simp [keysP], ?_, ?_⟩
  · rw [List.all_eq_true]
    intro l hl'
    obtain ⟨x, hx, rfl⟩ := List.mem_map.1 hl'
    rw [hgl]
    exact rowE_rises n T _ x _ _ (Nat.le_refl _)
  · unfold allIn
    rw [List.all_eq_true]
    intro y hy
    obtain ⟨x, hx, rfl⟩ := List.mem_map.1 hy
    have h := hin x hx
    unfold keyOf1
    exact inB_yes (by omega) (by omega)
  · unfold keysP
    have hnd : (readyL n T).Pairwise lexL := by rw [← less_insts]; exact insts_lex _
    unfold List.Nodup
    rw [List.pairwise_map]
    refine hnd.imp_of_mem ?_
    intro x y hx hy hxy
    have h1 := hin x hx
    have h2 := hin y hy
    unfold keyOf1
    unfold lexL at hxy
    omega
/-- What OrderIn tells. -/
noncomputable def orderP (n : Int) (T : List (List RowD)) : List (List Int) := (orderL (graphP n T (readyL n T)) (keysP n T (readyL n T))).map fun k => pairOf ((readyL n T)[k.toNat]?.getD (0, 0))
noncomputable def orderR (n : Int) (T : List (List RowD)) : List (List Int) := if goodTab n T then orderP n T else []
end Go.Proofs.YtcpmfcigciknlaaGreat

namespace Go.Proofs.YtcpmfcigciknlaaGreat
open Go.RowKit
set_option linter.unusedVariables false

theorem tab_res (w : World) (n : Int) (u : Value) (T T' : TypeId) :
    AttrAt ((w.alloc (.cells #[.int .i64 n, u] T)).alloc (.cells #[.int .i64 0, .int .i64 0, .int .i64 0, .int .i64 0, .int .i64 0, .int .i64 0, .int .i64 0, .int .i64 0, .int .i64 0, .slice none 0 0] T')) w.heap.size n u ∧
    RowAt ((w.alloc (.cells #[.int .i64 n, u] T)).alloc (.cells #[.int .i64 0, .int .i64 0, .int .i64 0, .int .i64 0, .int .i64 0, .int .i64 0, .int .i64 0, .int .i64 0, .int .i64 0, .slice none 0 0] T')) (w.heap.size + 1) ⟨0, 0, 0, 0, 0, 0, 0, 0, 0, []⟩ (.slice none 0 0) ∧
      FreeAt ((w.alloc (.cells #[.int .i64 n, u] T)).alloc (.cells #[.int .i64 0, .int .i64 0, .int .i64 0, .int .i64 0, .int .i64 0, .int .i64 0, .int .i64 0, .int .i64 0, .int .i64 0, .slice none 0 0] T')) (w.heap.size + 1) := by
  refine ⟨⟨?_, ?_⟩, ⟨?_, ?_, ?_, ?_, ?_, ?_, ?_, ?_, ?_, ?_⟩, ⟨?_, ?_, ?_, ?_, ?_, ?_, ?_, ?_, ?_, ?_⟩⟩ <;> go_simp

set_option maxHeartbeats 2000000 in
set_option maxRecDepth 100000 in
theorem l4At_any (n : Int) (u : Value) (T : List (List RowD)) (p q : Nat) (w : World) (hu : Rowzz w u T) (hg : goodTab n T = true) (hp : p < T.length) (hq : q ≤ 5) :
    Calls Tryz.prog 65 #[.agg #[.int .i64 n, u], .int .i64 p, .int .i64 ((q : Int) + 1)] w (NewRow (rowOf n T p q) w) := by
  have hu0 := hu
  obtain ⟨au, cu, rfl, hlu, _, hcu⟩ := hu
  unfold maxLen at hlu
  obtain ⟨bu, ou, rfl, du⟩ := hcu (by omega)
  obtain ⟨x, hx1, ix⟩ := du p hp
  obtain ⟨R, hR⟩ : ∃ R, R = T[p] := ⟨_, rfl⟩
  rw [← hR] at ix
  obtain ⟨wb, hwb⟩ : ∃ wb, wb = (w.alloc (.cells #[.int .i64 n, .slice (some ⟨bu, ou, none⟩) T.length cu] 32)).alloc (.cells #[.int .i64 0, .int .i64 0, .int .i64 0, .int .i64 0, .int .i64 0, .int .i64 0, .int .i64 0, .int .i64 0, .int .i64 0, .slice none 0 0] 83) := ⟨_, rfl⟩
  have ho := tab_res w n (.slice (some ⟨bu, ou, none⟩) T.length cu) 32 83
  rw [← hwb] at ho
  have xb : Ext w wb := by rw [hwb]; exact ((Ext.refl w).alloc _).alloc _
  have sb : w.heap.size + 2 ≤ wb.heap.size := by rw [hwb]; simp
  have gx := xb.cell hx1
  have ixb := ix.ext xb
  obtain ⟨ax, cx, rfl, hlx, _, hcx⟩ := ixb
  unfold maxLen at hlx
  have hgrp := (goodTab_of hg).1
  by_cases hqt : q < R.length
  · have hqt' : q < T[p].length := by rw [← hR]; exact hqt
    have hrow := goodTab_row hg hp hqt'
    have e : rowOf n T p q = R[q] := by rw [rowOf_in hp hqt']; simp only [hR]
    rw [e]
    obtain ⟨d, hd⟩ : ∃ d, d = R[q] := ⟨_, rfl⟩
    obtain ⟨bx, ox, rfl, dx⟩ := hcx (by omega)
    obtain ⟨y, hy1, iy⟩ := dx q hqt
    rw [← hd] at hy1 iy ⊢
    have hdl : d.l.length ≤ 1048576 := by have : d = T[p][q] := by rw [hd]; simp only [hR]
                                          rw [this]; omega
    have HWB := Lib.hid hwb
    have HO := Lib.hid ho
    have IY := Lib.hid iy
    have SB := Lib.hid sb
    obtain ⟨g0, g1, g2, g3, g4, g5, g6, g7, g8, g9⟩ := hy1
    obtain ⟨t0, t1⟩ := ho.1
    have hq0 : (q : Int) ≤ 5 := by omega
    have hq1 : (q : Int) + 1 ≤ R.length := by omega
    rw [hwb] at g0 g1 g2 g3 g4 g5 g6 g7 g8 g9 gx t0 t1
    clear hwb ho hu0 hcu du hx1 ix hR hcx dx iy hd hrow hqt' e hg hgrp sb
    go_enter Tryz.func65, Tryz.ntmps65
    go_wp2_with fail
    rw [← HWB.out]
    refine (l4OwnRow_any d y _ IY.out hdl).mono ?_
    rintro e w1 ⟨v, rfl, f1, x1⟩
    have hx := xb.trans x1
    obtain ⟨o0, o1, o2, o3, o4, o5, o6, o7, o8, o9⟩ := HO.out.2.1.ext x1
    obtain ⟨z0, z1, z2, z3, z4, z5, z6, z7, z8, z9⟩ := HO.out.2.2.ext (by have := SB.out; omega) x1
    obtain ⟨ay, cy, rfl⟩ := f1.form
    have F := Lib.hid f1
    clear f1 x1 xb g0 g1 g2 g3 g4 g5 g6 g7 g8 g9 gx t0 t1
    go_wp2
    refine bodyPost_ret (v := .agg #[.int .i64 d.b, .int .i64 d.v, .int .i64 d.st, .int .i64 d.k, .int .i64 d.i, .int .i64 d.f, .int .i64 d.t, .int .i64 d.a, .int .i64 d.s, .slice ay d.l.length cy]) (by simp [results, Tryz.results65, go_sem, o0, o1, o2, o3, o4, o5, o6, o7, o8, o9]) rfl ⟨_, rfl, ?_, ?_⟩
    · exact ((((((((((F.out.set _ _ _ (by have := SB.out; omega)).set _ _ _ (by have := SB.out; omega)).set _ _ _ (by have := SB.out; omega)).set _ _ _ (by have := SB.out; omega)).set _ _ _ (by have := SB.out; omega)).set _ _ _ (by have := SB.out; omega)).set _ _ _ (by have := SB.out; omega)).set _ _ _ (by have := SB.out; omega)).set _ _ _ (by have := SB.out; omega)).set _ _ _ (by have := SB.out; omega)).more (by have := SB.out; omega)
    · exact (((((((((hx.setc (by dsimp only; omega)).setc (by dsimp only; omega)).setc (by dsimp only; omega)).setc (by dsimp only; omega)).setc (by dsimp only; omega)).setc (by dsimp only; omega)).setc (by dsimp only; omega)).setc (by dsimp only; omega)).setc (by dsimp only; omega)).setc (by dsimp only; omega)
  · have e : rowOf n T p q = emptyR n := rowOf_out hp (by rw [← hR]; omega)
    rw [e]
    obtain ⟨L, hL⟩ : ∃ L, L = noneL n := ⟨_, rfl⟩
    have hc := fun W => l3None_any n W hgrp
    have hLE : emptyR n = ⟨0, 0, 0, 0, 0, 0, 0, 0, 0, L⟩ := by rw [hL]; rfl
    rw [← hL] at hc
    rw [hLE]
    have HC := Lib.hid hc
    have HWB := Lib.hid hwb
    have HO := Lib.hid ho
    have SB := Lib.hid sb
    obtain ⟨t0, t1⟩ := ho.1
    have hq0 : (q : Int) ≤ 5 := by omega
    have hq1 : (R.length : Int) < (q : Int) + 1 := by omega
    rw [hwb] at gx t0 t1
    clear hwb ho hu0 hcu du hx1 ix hR hcx e hg hgrp sb hL hc hLE hqt
    go_enter Tryz.func65, Tryz.ntmps65
    go_wp2_with fail
    rw [← HWB.out]
    refine (HC.out _).mono ?_
    rintro e w1 ⟨v, rfl, f1, x1⟩
    have hx := xb.trans x1
    obtain ⟨o0, o1, o2, o3, o4, o5, o6, o7, o8, o9⟩ := HO.out.2.1.ext x1
    obtain ⟨z0, z1, z2, z3, z4, z5, z6, z7, z8, z9⟩ := HO.out.2.2.ext (by have := SB.out; omega) x1
    obtain ⟨ay, cy, rfl⟩ := f1.form
    have F := Lib.hid f1
    clear f1 x1 xb gx t0 t1
    go_wp2
    refine bodyPost_ret (v := .agg #[.int .i64 0, .int .i64 0, .int .i64 0, .int .i64 0, .int .i64 0, .int .i64 0, .int .i64 0, .int .i64 0, .int .i64 0, .slice ay L.length cy]) (by simp [results, Tryz.results65, go_sem, o0, o1, o2, o3, o4, o5, o6, o7, o8, o9]) rfl ⟨_, rfl, ?_, ?_⟩
    · exact ((((((((((F.out.set _ _ _ (by have := SB.out; omega)).set _ _ _ (by have := SB.out; omega)).set _ _ _ (by have := SB.out; omega)).set _ _ _ (by have := SB.out; omega)).set _ _ _ (by have := SB.out; omega)).set _ _ _ (by have := SB.out; omega)).set _ _ _ (by have := SB.out; omega)).set _ _ _ (by have := SB.out; omega)).set _ _ _ (by have := SB.out; omega)).set _ _ _ (by have := SB.out; omega)).more (by have := SB.out; omega)
    · exact (((((((((hx.setc (by dsimp only; omega)).setc (by dsimp only; omega)).setc (by dsimp only; omega)).setc (by dsimp only; omega)).setc (by dsimp only; omega)).setc (by dsimp only; omega)).setc (by dsimp only; omega)).setc (by dsimp only; omega)).setc (by dsimp only; omega)).setc (by dsimp only; omega)

end Go.Proofs.YtcpmfcigciknlaaGreat

namespace Go.Proofs.YtcpmfcigciknlaaGreat
open Go.RowKit
set_option linter.unusedVariables false

/-- A block of a row of noughts that may be written. -/
structure OpenRow (w : World) (b : Nat) : Prop where
  row : RowAt w b zeroR (.slice none 0 0)
  free : FreeAt w b
  lt : b < w.heap.size
theorem OpenRow.ext {w w' : World} {b : Nat} (h : OpenRow w b) (e : Ext w w') : OpenRow w' b := ⟨h.row.ext e, h.free.ext h.lt e, Nat.lt_of_lt_of_le h.lt e.size⟩
theorem openRow_new (w : World) (T : TypeId) : OpenRow (w.alloc (.cells #[.int .i64 0, .int .i64 0, .int .i64 0, .int .i64 0, .int .i64 0, .int .i64 0, .int .i64 0, .int .i64 0, .int .i64 0, .slice none 0 0] T)) w.heap.size := by
  refine ⟨rowAt_new w T zeroR _, ⟨?_, ?_, ?_, ?_, ?_, ?_, ?_, ?_, ?_, ?_⟩, by simp⟩ <;> go_simp

abbrev put10 (W : World) (b : Nat) (d : RowD) (u : Value) : World :=
  (((((((((W.setCell ⟨b, 0, none⟩ (.int .i64 d.b)).setCell ⟨b, 1, none⟩ (.int .i64 d.v)).setCell ⟨b, 2, none⟩ (.int .i64 d.st)).setCell ⟨b, 3, none⟩ (.int .i64 d.k)).setCell ⟨b, 4, none⟩ (.int .i64 d.i)).setCell ⟨b, 5, none⟩ (.int .i64 d.f)).setCell ⟨b, 6, none⟩ (.int .i64 d.t)).setCell ⟨b, 7, none⟩ (.int .i64 d.a)).setCell ⟨b, 8, none⟩ (.int .i64 d.s)).setCell ⟨b, 9, none⟩ u

set_option maxHeartbeats 4000000 in
theorem put10_row {W : World} {b : Nat} {d : RowD} {u : Value} (h : OpenRow W b) : RowAt (put10 W b d u) b d u := by
  obtain ⟨o0, o1, o2, o3, o4, o5, o6, o7, o8, o9⟩ := h.row
  unfold put10
  refine ⟨?_, ?_, ?_, ?_, ?_, ?_, ?_, ?_, ?_, ?_⟩ <;> simp [go_sem, o0, o1, o2, o3, o4, o5, o6, o7, o8, o9]
theorem put10_fresh {W : World} {b B : Nat} {d : RowD} {u : Value} {l : List Int} (h : Fresh B W u l) (hb : b < B) : Fresh B (put10 W b d u) u l := by
  unfold put10
  exact (((((((((h.set _ _ _ hb).set _ _ _ hb).set _ _ _ hb).set _ _ _ hb).set _ _ _ hb).set _ _ _ hb).set _ _ _ hb).set _ _ _ hb).set _ _ _ hb).set _ _ _ hb
theorem put10_ext {W w0 : World} {b : Nat} {d : RowD} {u : Value} (h : Ext w0 W) (hb : w0.heap.size ≤ b) : Ext w0 (put10 W b d u) := by
  unfold put10
  exact (((((((((h.setc hb).setc hb).setc hb).setc hb).setc hb).setc hb).setc hb).setc hb).setc hb).setc hb

end Go.Proofs.YtcpmfcigciknlaaGreat

namespace Go.Proofs.YtcpmfcigciknlaaGreat
open Go.RowKit Go.Maps
set_option linter.unusedVariables false

theorem pairs_len (T : List (List RowD)) : ((insts T).map pairOf).length = (insts T).length := by simp
theorem pair_at {w : World} {v : Value} {x : Nat × Nat} (h : Ints w v (pairOf x)) : ∃ b o c, v = .slice (some ⟨b, o, none⟩) 2 c ∧ w.cell? ⟨b, o, none⟩ = some (.int .i64 x.1) ∧ w.cell? ⟨b, o + 1, none⟩ = some (.int .i64 ((x.2 : Int) + 1)) := by
  obtain ⟨a, c, rfl, _, _, hc⟩ := h
  have hl : (pairOf x).length = 2 := rfl
  have h0 : 0 < (pairOf x).length := by omega
  have h1 : 1 < (pairOf x).length := by omega
  obtain ⟨b, o, rfl, hk⟩ := hc h0
  have z0 := hk 0 h0
  have z1 := hk 1 h1
  exact ⟨b, o, c, rfl, z0, z1⟩

end Go.Proofs.YtcpmfcigciknlaaGreat
