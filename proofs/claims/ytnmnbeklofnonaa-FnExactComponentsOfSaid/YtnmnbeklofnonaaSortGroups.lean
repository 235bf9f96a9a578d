/- Contract of slices.SortFunc of lists by slices.Compare. -/
import Derived.Test.YtnmnbeklofnonaaSortKit
import Derived.Test.YtnmnbeklofnonaaCompare
import Derived.Test.YtnmnbeklofnonaaSpecComps
namespace Go.Proofs.Ytnmnbeklofnonaa
open Go.RowKit Go.Sort Go.Shelf
set_option linter.unusedVariables false

theorem cmpL_cons (x y : Int) (s t : List Int) : cmpL (x :: s) (y :: t) = if x < y then -1 else if y < x then 1 else cmpL s t := by
  simp only [cmpL, cmpI]
  by_cases h1 : x < y
  · simp [h1]
  · by_cases h2 : y < x
    · simp [h1, h2]
    · simp [h1, h2]
theorem cmpL_irrefl : ∀ l, ¬ cmpL l l < 0
  | [] => by simp [cmpL]
  | x :: s => by
    rw [cmpL_cons]
    simp
    have := cmpL_irrefl s
    omega
theorem cmpL_trans : ∀ a b c, cmpL a b < 0 → cmpL b c < 0 → cmpL a c < 0
  | [], [], c, h, _ => by simp [cmpL] at h
  | _ :: _, [], c, h, _ => by simp [cmpL] at h
  | a, _ :: _, [], _, k => by simp [cmpL] at k
  | [], _ :: _, _ :: _, _, _ => by simp [cmpL]
  | x :: s, y :: t, z :: u, h, k => by
    rw [cmpL_cons] at h k ⊢
    by_cases h1 : x < y
    · by_cases h2 : y < z
      · rw [if_pos (by omega)]; omega
      · by_cases h3 : z < y
        · rw [if_neg h2, if_pos h3] at k; omega
        · rw [if_pos (by omega)]; omega
    · by_cases h4 : y < x
      · rw [if_neg h1, if_pos h4] at h; omega
      · rw [if_neg h1, if_neg h4] at h
        by_cases h2 : y < z
        · rw [if_pos (by omega)]; omega
        · by_cases h3 : z < y
          · rw [if_neg h2, if_pos h3] at k; omega
          · rw [if_neg h2, if_neg h3] at k
            rw [if_neg (by omega), if_neg (by omega)]
            exact cmpL_trans s t u h k
theorem cmpL_ntrans : ∀ a b c, ¬ cmpL a b < 0 → ¬ cmpL b c < 0 → ¬ cmpL a c < 0
  | [], [], c, _, k => k
  | _ :: _, [], [], _, _ => by simp [cmpL]
  | _ :: _, [], _ :: _, _, k => by simp [cmpL] at k
  | [], _ :: _, c, h, _ => by simp [cmpL] at h
  | _ :: _, _ :: _, [], _, _ => by simp [cmpL]
  | x :: s, y :: t, z :: u, h, k => by
    rw [cmpL_cons] at h k ⊢
    by_cases h1 : x < y
    · rw [if_pos h1] at h; omega
    · by_cases h2 : y < z
      · rw [if_pos h2] at k; omega
      · rw [if_neg (by omega)]
        by_cases h4 : z < x
        · rw [if_pos h4]; omega
        · rw [if_neg h4]
          rw [if_neg h1, if_neg (by omega)] at h
          rw [if_neg h2, if_neg (by omega)] at k
          exact cmpL_ntrans s t u h k

def encV (VS : List Value) (i : Nat) : Value := VS[i]?.getD (.slice none 0 0)
def cfL (L : List (List Int)) (i j : Nat) : Int := cmpL (L[i]?.getD []) (L[j]?.getD [])
theorem cfL_swo (L : List (List Int)) : SWO (Go.Proofs.ltOf (cfL L)) where
  irrefl x := by unfold Go.Proofs.ltOf cfL; rw [decide_eq_false_iff_not]; exact cmpL_irrefl _
  trans x y z h k := by
    unfold Go.Proofs.ltOf cfL at *
    rw [decide_eq_true_iff] at *
    exact cmpL_trans _ _ _ h k
  ntrans x y z h k := by
    unfold Go.Proofs.ltOf cfL at *
    rw [decide_eq_false_iff_not] at *
    exact cmpL_ntrans _ _ _ h k
theorem pickV_eq (VS : List Value) (is : List Nat) : is.map (encV VS) = pickV VS is := rfl
theorem pickV_range (VS : List Value) : pickV VS (List.range VS.length) = VS := by
  unfold pickV
  apply List.ext_getElem (by simp)
  intro i h1 h2
  simp [h2]
/-- A row reads the same behind what turns another block. -/
theorem Rows_.encInts {B g : Nat} {w w' : World} {VS : List Value} {L : List (List Int)} (h : Rows_ B w VS L) (t : w.grownBy w' (some g)) (ha : ∀ (j : Nat) (u : Value), VS[j]? = some u → u.ownBlock = none ∨ u.ownBlock ≠ some g) (i : Nat) : Ints w' (encV VS i) (L[i]?.getD []) := by
  have h2 := h.touch (blk := some g) t ha
  by_cases hi : i < L.length
  · exact h2.ints hi
  · unfold encV
    rw [List.getElem?_eq_none (by rw [h.len]; omega), List.getElem?_eq_none (by omega)]
    exact Ints.nil w'

def SortedGroups (B : Nat) (v : Value) (VS : List Value) (L : List (List Int)) (w : World) (e : Ending) (w' : World) : Prop :=
  (∃ r, e = .returned r) ∧ ∃ is : List Nat, is.Perm (List.range VS.length) ∧ (pickL L is).Pairwise (fun G H => ¬ cmpL H G < 0) ∧ FreshV B w' v (pickV VS is) ∧ w.grownBy w' v.ownBlock

theorem sortGroups_any (B B2 : Nat) (v : Value) (VS : List Value) (L : List (List Int)) (w : World) (hv : FreshV B w v VS) (hR : Rows_ B2 w VS L) (hl : VS.length ≤ 1048576) :
    Calls Try.prog 103 #[v, .func (.func 104) #[] #[]] w (SortedGroups B v VS L w) := by
  have hv0 : w.ownsRow B 27 1 v VS.length VS := hv
  rcases hv.2 with ⟨rfl, h0⟩ | ⟨g, cap, cur, rfl, hb, hg, _⟩
  · refine (Try.slices_SortFunc_none_f103 (α := Nat) none 0 _ w).mono ?_
    rintro e w' ⟨rfl, rfl⟩
    have hn : VS = [] := List.eq_nil_of_length_eq_zero h0
    subst hn
    refine ⟨⟨_, rfl⟩, [], by simp, by simp [pickL], FreshV.nil _ _, ⟨rfl, rfl, rfl, Nat.le_refl _, fun _ _ _ => rfl⟩⟩
  · have hap : ∀ (j : Nat) (u : Value), VS[j]? = some u → u.ownBlock = none ∨ u.ownBlock ≠ some g := fun j u hu => by
      have hj : j < VS.length := (List.getElem?_eq_some_iff.1 hu).1
      have := types_apart hv0 (hR.row j u _ hu (List.getElem?_eq_getElem (by rw [← hR.len]; exact hj))) (by decide)
      exact this
    have hmap : (List.range VS.length).map (encV VS) = VS := by rw [pickV_eq, pickV_range]
    have hH : Holds (encV VS) w g 0 (List.range VS.length).toArray := holds_of_own (encV VS) (by rw [hmap]; exact hv0) (by simp)
    have hgw : g < w.heap.size := (Array.getElem?_eq_some_iff.1 hg).1
    have hsz : (List.range VS.length).toArray.size = VS.length := by simp
    have h1 : Go.Proofs.OneCell (encV VS) := fun i => hR.one i
    have hcmp : Go.Proofs.CmpLays1 Try.prog 104 #[] (encV VS) (cfL L) g 0 (List.range VS.length).toArray.size w := by
      intro m os dk _ x y
      have ht : w.grownBy (sortWorld (encV VS) w g 0 m dk os) (some g) := grown_put (encV VS) dk
      refine (compare_any _ _ _ _ _ (hR.encInts ht hap x) (hR.encInts ht hap y)).mono ?_
      rintro e w' ⟨rfl, rfl⟩
      exact ⟨rfl, 0, #[], by rw [grow_empty]; rfl⟩
    have hc := Try.slices_SortFunc_f103 (encV VS) h1 (cfL L) (cfL_swo L) 104 #[] g 0 cap (List.range VS.length).toArray w (enters_of Try.func104 (by kernel_rfl) rfl) hcmp hH hgw (by rw [hsz]; omega)
    rw [hsz] at hc
    refine hc.mono ?_
    rintro e w' ⟨rfl, d', n, os, hp, hs, rfl⟩
    have hd : d'.toList.length = VS.length := by rw [Array.length_toList, hp.1, hsz]
    have hds : d'.size = VS.length := by rw [hp.1, hsz]
    have hperm : d'.toList.Perm (List.range VS.length) := by
      have h := hp.2.2
      have e1 : d'.extract 0 VS.length = d' := by rw [← hds]; simp
      have e2 : ((List.range VS.length).toArray.extract 0 VS.length) = (List.range VS.length).toArray := by
        have := Array.extract_size (xs := (List.range VS.length).toArray)
        rwa [hsz] at this
      rw [e1, e2] at h
      simpa using h
    refine ⟨⟨_, rfl⟩, d'.toList, hperm, ?_, ?_, grown_put (encV VS) d'⟩
    · rw [List.pairwise_iff_getElem]
      intro i j hi hj hij
      rw [pickL_len, hd] at hi hj
      have h := hs i j (Nat.zero_le _) hij hj
      unfold Go.Proofs.ltOf cfL at h
      rw [decide_eq_false_iff_not] at h
      have ei : d'[i]! = d'.toList[i]'(by rw [hd]; exact hi) := by simp [show i < d'.size by omega]
      have ej : d'[j]! = d'.toList[j]'(by rw [hd]; exact hj) := by simp [show j < d'.size by omega]
      rw [ei, ej] at h
      have gi : ∀ (k : Nat) (hk : k < (pickL L d'.toList).length) (hk2 : k < d'.toList.length), (pickL L d'.toList)[k] = L[d'.toList[k]]?.getD [] := fun k hk hk2 => by
        have := pickL_at (L := L) (is := d'.toList) (k := k) (i := d'.toList[k]) (List.getElem?_eq_getElem hk2)
        rw [List.getElem?_eq_getElem hk] at this
        exact Option.some.inj this
      rw [gi i (by rw [pickL_len, hd]; exact hi) (by rw [hd]; exact hi), gi j (by rw [pickL_len, hd]; exact hj) (by rw [hd]; exact hj)]
      exact h
    · have := own_put (encV VS) (m := n) (os := os) (ts := d'.toList) hv0 hd
      unfold FreshV
      rw [pickV_len, hd, ← pickV_eq]
      have e3 : d'.toList.toArray = d' := by simp
      rw [e3] at this
      exact this

end Go.Proofs.Ytnmnbeklofnonaa
