/- Contract of slices.Delete of one list, and plain facts for groupsInTurn. -/
import Derived.Test.YtnmnbeklofnonaaSortGroups
import Derived.Test.YtnmnbeklofnonaaGroups2
import Derived.Test.YtnmnbeklofnonaaLedAt
namespace Go.Proofs.Ytnmnbeklofnonaa
open Go.RowKit Go.Sort Go.Shelf
set_option linter.unusedVariables false

theorem ownsRow_less {w : World} {B e n k cap : Nat} {ao : Option Addr} {xs : List Value} (h : w.ownsRow B e 1 (.slice ao n cap) n xs) (hk : k ≤ n) : w.ownsRow B e 1 (.slice ao k cap) k (xs.take k) := by
  have hx := h.1
  refine ⟨by rw [List.length_take]; omega, ?_⟩
  rcases h.2 with ⟨hv, hn⟩ | ⟨g, cap', cur, hv, hb, hg, hnc, hcm, hcs, ht⟩
  · left
    simp only [Value.slice.injEq] at hv
    obtain ⟨rfl, _, rfl⟩ := hv
    have : k = 0 := by omega
    subst this
    exact ⟨rfl, rfl⟩
  · right
    simp only [Value.slice.injEq] at hv
    obtain ⟨rfl, _, rfl⟩ := hv
    refine ⟨g, cap, cur, rfl, hb, hg, by omega, hcm, hcs, ?_⟩
    rw [← ht, List.take_take]
    congr 1
    omega

theorem delete_any (B : Nat) (v : Value) (VS : List Value) (is : List Nat) (n k : Nat) (w : World) (hv : FreshV B w v (pickV VS is)) (hn : is.length = n) (hk : k < n) (h1 : ∀ i, (encV VS i).oneCell' = true) :
    Calls Try.prog 108 #[v, .int .i64 (k : Int), .int .i64 ((k : Int) + 1)] w (fun e w' => ∃ g cap, v = .slice (some ⟨g, 0, none⟩) n cap ∧ e = .returned (.slice (some ⟨g, 0, none⟩) (n - 1) cap) ∧ FreshV B w' (.slice (some ⟨g, 0, none⟩) (n - 1) cap) (pickV VS (is.eraseIdx k)) ∧ w.grownBy w' v.ownBlock) := by
  have hlen : (pickV VS is).length = n := by rw [pickV_len]; exact hn
  obtain ⟨g, cap, rfl, hc1, hc2⟩ := hv.form (n := n) hlen (by omega)
  unfold maxLen at hc2
  have hv0 : w.ownsRow B 27 1 (.slice (some ⟨g, 0, none⟩) n cap) n (is.map (encV VS)) := by
    have h : w.ownsRow B 27 1 (.slice (some ⟨g, 0, none⟩) n cap) (pickV VS is).length (pickV VS is) := hv
    rw [hlen] at h
    exact h
  obtain ⟨i0, hi, _, hz1, _⟩ := info_parts Try.infoInts
  have hH := holds_of_own (encV VS) hv0 hn
  have hz : ∀ w, (zeroValue 27).run Try.prog w = .ok (encV VS VS.length) w := fun w => by
    have := Try.zeroValue27 w
    have e : encV VS VS.length = .slice none 0 0 := by unfold encV; rw [List.getElem?_eq_none (Nat.le_refl _)]; rfl
    rw [e]; exact this
  have hsz : is.toArray.size = n := by simp [hn]
  have hd := AnyE.slices_Delete Try.lDel (encV VS) h1 VS.length hz i0 hi hz1 g 0 cap k (k + 1) is.toArray w hH (by rw [hsz]; exact hc1) (by omega) (by omega) (by rw [hsz]; omega)
  rw [hsz] at hd
  have e1 : n - (k + 1 - k) = n - 1 := by omega
  have e2 : k + 1 - k = 1 := by omega
  rw [e1, e2] at hd
  have e3 : ((k + 1 : Nat) : Int) = (k : Int) + 1 := by omega
  rw [e3] at hd
  refine hd.mono ?_
  rintro e w' ⟨rfl, q, rfl⟩
  have hg0 : putRow (encV VS) (Sort.ahead w q) g 0 (is.toArray.toList.take k ++ is.toArray.toList.drop (k + 1) ++ List.replicate 1 VS.length).toArray = grow (putRow (encV VS) (Sort.ahead w q) g 0 (is.take k ++ is.drop (k + 1) ++ [VS.length]).toArray) #[] := by
    rw [grow_empty]; rfl
  rw [hg0]
  have hl2 : (is.take k ++ is.drop (k + 1) ++ [VS.length]).length = n := by simp; omega
  have ho := own_put (encV VS) (m := q) (os := #[]) hv0 hl2
  have hless := ownsRow_less (k := n - 1) ho (by omega)
  refine ⟨g, cap, rfl, rfl, ?_, grown_put (encV VS) _⟩
  have e4 : ((is.take k ++ is.drop (k + 1) ++ [VS.length]).map (encV VS)).take (n - 1) = pickV VS (is.eraseIdx k) := by
    rw [pickV_erase, List.map_append, List.map_append, List.map_take, List.map_drop, pickV_eq]
    have h5 : ((pickV VS is).take k ++ (pickV VS is).drop (k + 1)).length = n - 1 := by
      rw [List.length_append, List.length_take, List.length_drop, hlen]; omega
    rw [← h5, List.take_left]
  rw [e4] at hless
  unfold FreshV
  have h6 : (pickV VS (is.eraseIdx k)).length = n - 1 := by
    rw [pickV_len, List.length_eraseIdx, hn]; simp [hk]
  rw [h6]
  exact hless

/-- A list of another type lies in another block. -/
theorem own_not {w : World} {B e n b : Nat} {v : Value} {xs : List Value} {cs : Array Value} {T : TypeId} {fr : Nat × Nat} (h : w.ownsRow B e 1 v n xs) (hb : w.heap[b]? = some (.cells cs T fr)) (hne : e ≠ T) : v.ownBlock ≠ some b := by
  intro hv
  rcases h.2 with ⟨rfl, _⟩ | ⟨g, cap, cur, rfl, _, hg, _⟩
  · simp [Value.ownBlock] at hv
  · simp [Value.ownBlock] at hv
    subst hv
    rw [hg] at hb
    simp only [Option.some.injEq, Obj.cells.injEq] at hb
    exact hne hb.2.1
theorem pickC_spec {g LL : List (List Int)} {k : Nat} (h : pickC g LL = some k) : freeB g LL k = true ∧ ∀ j, j < k → freeB g LL j = false := by
  unfold pickC at h
  have := List.find?_range_eq_some.1 h
  refine ⟨this.1, fun j hj => ?_⟩
  have := this.2.2 j hj
  simpa using this

end Go.Proofs.Ytnmnbeklofnonaa
