/- The groups of a graph told one by one: what is left and what is told, as indices into the first list; and whether a group is free, as the loops find it. No program text is named here. -/
import Derived.Test.YtnmnbeklofnonaaComps
import Derived.Test.YtnmnbeklofnonaaL1Has
namespace Go.Proofs.Ytnmnbeklofnonaa
open Go.RowKit
set_option linter.unusedVariables false

theorem erase_map {α β : Type} (f : α → β) : ∀ (l : List α) (k : Nat), (l.eraseIdx k).map f = (l.map f).eraseIdx k
  | [], k => by simp
  | x :: l, 0 => by simp
  | x :: l, k + 1 => by simp [erase_map f l k]
theorem perm_erase {α : Type} : ∀ (l : List α) (k : Nat) (h : k < l.length), (l[k] :: l.eraseIdx k).Perm l
  | x :: l, 0, _ => by simp
  | x :: l, k + 1, h => by
    have h' : k < l.length := by simpa using h
    have := perm_erase l k h'
    simp only [List.getElem_cons_succ, List.eraseIdx_cons_succ]
    exact (List.Perm.swap x _ _).trans (List.Perm.cons x this)
def pickL (L : List (List Int)) (is : List Nat) : List (List Int) := is.map fun i => L[i]?.getD []
theorem pickL_range (L : List (List Int)) : pickL L (List.range L.length) = L := by
  unfold pickL
  apply List.ext_getElem
  · simp
  · intro i h1 h2
    simp [List.getElem?_eq_getElem h2]
theorem pickL_erase (L : List (List Int)) (is : List Nat) (k : Nat) : pickL L (is.eraseIdx k) = (pickL L is).eraseIdx k := by
  unfold pickL
  exact erase_map _ _ _
theorem pickL_at {L : List (List Int)} {is : List Nat} {k i : Nat} (h : is[k]? = some i) : (pickL L is)[k]? = some (L[i]?.getD []) := by
  unfold pickL
  rw [List.getElem?_map, h]; rfl

structure CompS (g : List (List Int)) (isO isL : List Nat) : Prop where
  nodup : (isO ++ isL).Nodup
  bound : ∀ i ∈ isO ++ isL, i < (groupsL g).length
  left : Left g (pickL (groupsL g) isL)
  told : pickL (groupsL g) isO ++ compsC g isL.length (pickL (groupsL g) isL) = compsL g

theorem CompS.start {g : List (List Int)} (hg : rowsB g = true) : CompS g [] (List.range (groupsL g).length) := by
  refine ⟨by simpa using List.nodup_range, by simp, ?_, ?_⟩
  · rw [pickL_range]; exact left_groups hg
  · rw [pickL_range, List.length_range]; rfl
theorem CompS.next {g : List (List Int)} {isO isL : List Nat} (h : CompS g isO isL) {k i : Nat} (hk : isL[k]? = some i) (hp : pickC g (pickL (groupsL g) isL) = some k) : CompS g (isO ++ [i]) (isL.eraseIdx k) := by
  have hlt : k < isL.length := (List.getElem?_eq_some_iff.1 hk).1
  have hperm : (i :: isL.eraseIdx k).Perm isL := by
    obtain ⟨h1, h2⟩ := List.getElem?_eq_some_iff.1 hk
    have := perm_erase isL k h1
    rwa [h2] at this
  have hp2 : ((isO ++ [i]) ++ isL.eraseIdx k).Perm (isO ++ isL) := by
    rw [List.append_assoc]
    exact List.Perm.append_left isO hperm
  refine ⟨hp2.nodup_iff.2 h.nodup, fun j hj => h.bound j (hp2.mem_iff.1 hj), ?_, ?_⟩
  · rw [pickL_erase]; exact h.left.erase k
  · have ht := h.told
    have hl : isL.length = (isL.eraseIdx k).length + 1 := by rw [List.length_eraseIdx]; simp [hlt]; omega
    rw [hl] at ht
    unfold compsC at ht
    rw [hp] at ht
    simp only at ht
    rw [pickL_at hk, Option.getD_some, ← pickL_erase] at ht
    rw [← ht]
    simp [pickL]
theorem CompS.done {g : List (List Int)} {isO : List Nat} (h : CompS g isO []) : pickL (groupsL g) isO = compsL g := by
  have := h.told
  simpa [compsC] using this

/-! ### Whether a group is free -/
/-- Of one point of the group at k and one list that is left: whether the point leads to none of it (its own list aside). -/
def freeN (g left : List (List Int)) (k : Nat) (p : Int) (i : Nat) : Bool := (left[i]?.getD []).all fun n => decide (i = k) || !hasI (rowG g p) n
theorem freeB_eq (g left : List (List Int)) (k : Nat) : freeB g left k = (left[k]?.getD []).all fun p => (List.range left.length).all fun i => freeN g left k p i := by
  unfold freeB freeN
  congr 1
  funext p
  congr 1
  funext i
  by_cases e : i = k
  · simp [e]
  · have hh : ∀ n, hasI (rowG g p) n = decide (n ∈ rowG g p) := fun n => by rw [Bool.eq_iff_iff]; simp [hasI]
    simp [e, hh]
theorem pickC_at {g left : List (List Int)} {k : Nat} (hk : k < left.length) (h : freeB g left k = true) (hb : ∀ j, j < k → freeB g left j = false) : pickC g left = some k := by
  unfold pickC
  rw [List.find?_eq_some_iff_getElem]
  refine ⟨h, k, by simpa using hk, by simp, fun j hj => ?_⟩
  simp [hb j hj]
theorem pickC_must {g left : List (List Int)} (hg : rowsB g = true) (hl : Left g left) (hne : left ≠ []) (hb : ∀ j, j < left.length → freeB g left j = false) : False := by
  obtain ⟨k, hk, hf⟩ := free_one hg hl hne
  rw [hb k hk] at hf
  cases hf

end Go.Proofs.Ytnmnbeklofnonaa
