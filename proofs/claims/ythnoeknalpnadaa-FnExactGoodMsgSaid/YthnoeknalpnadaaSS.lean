/- Slices of slices of integers: what it is to read as a list of lists, and to lie in new memory. No program text is named here. -/
import Derived.Test.YthnoeknalpnadaaWords
namespace Go.Proofs.Ythnoeknalpnadaa
open Go.RowKit

/-- v is a slice that reads as the lists L in w. -/
def Intss (w : World) (v : Value) (L : List (List Int)) : Prop :=
  ∃ ao cap, v = .slice ao L.length cap ∧ L.length ≤ maxLen ∧ (L.length ≤ cap ∧ cap ≤ maxLen ∧ (ao = none → cap = 0)) ∧
    (0 < L.length → ∃ b off, ao = some ⟨b, off, none⟩ ∧ ∀ j, j < L.length → ∃ u, w.cell? ⟨b, off + j, none⟩ = some u ∧ Ints w u (L[j]?.getD []))
theorem Intss.ext {w w' : World} {v : Value} {L : List (List Int)} (h : Intss w v L) (e : Ext w w') : Intss w' v L := by
  obtain ⟨ao, cap, hv, hm, hcap, hc⟩ := h
  refine ⟨ao, cap, hv, hm, hcap, fun hp => ?_⟩
  obtain ⟨b, off, ha, hc⟩ := hc hp
  refine ⟨b, off, ha, fun j hj => ?_⟩
  obtain ⟨u, hu, hi⟩ := hc j hj
  exact ⟨u, e.cell hu, hi.ext e⟩
theorem Intss.nil (w : World) : Intss w (.slice none 0 0) [] := ⟨none, 0, rfl, by simp, ⟨by simp, by simp, fun _ => rfl⟩, fun h => by simp at h⟩

/-- The rows are new, and no two share a block. -/
structure Rows_ (B : Nat) (w : World) (vs : List Value) (L : List (List Int)) : Prop where
  len : vs.length = L.length
  row : ∀ (j : Nat) (u : Value) (l : List Int), vs[j]? = some u → L[j]? = some l → Fresh B w u l
  apart : ∀ (i j : Nat) (u z : Value), i ≠ j → vs[i]? = some u → vs[j]? = some z → u.ownBlock = none ∨ u.ownBlock ≠ z.ownBlock
theorem Rows_.nil (B : Nat) (w : World) : Rows_ B w [] [] := ⟨rfl, fun _ _ _ h => by simp at h, fun _ _ _ _ _ h => by simp at h⟩
theorem Rows_.ext {B : Nat} {w w' : World} {vs : List Value} {L : List (List Int)} (h : Rows_ B w vs L) (e : Ext w w') : Rows_ B w' vs L :=
  ⟨h.len, fun j u l hu hl => (h.row j u l hu hl).ext e, h.apart⟩
theorem Rows_.more {B B' : Nat} {w : World} {vs : List Value} {L : List (List Int)} (h : Rows_ B w vs L) (hb : B' ≤ B) : Rows_ B' w vs L :=
  ⟨h.len, fun j u l hu hl => (h.row j u l hu hl).more hb, h.apart⟩
theorem Rows_.touch {B : Nat} {w w' : World} {vs : List Value} {L : List (List Int)} {blk : Option Nat} (h : Rows_ B w vs L) (t : w.grownBy w' blk) (ap : ∀ (j : Nat) (u : Value), vs[j]? = some u → u.ownBlock = none ∨ u.ownBlock ≠ blk) : Rows_ B w' vs L :=
  ⟨h.len, fun j u l hu hl => World.ownsRow.kept (h.row j u l hu hl) t (ap j u hu), h.apart⟩
/-- A row that was made later comes behind. -/
theorem Rows_.snoc {B : Nat} {w w' : World} {vs : List Value} {L : List (List Int)} {u : Value} {l : List Int} (h : Rows_ B w vs L) (e : Ext w w') (hu : Fresh w.heap.size w' u l) (hB : B ≤ w.heap.size) : Rows_ B w' (vs ++ [u]) (L ++ [l]) := by
  have h' := h.ext e
  refine ⟨by simp [h.len], fun j z r hz hr => ?_, fun i j z y hij hz hy => ?_⟩
  · by_cases hj : j < vs.length
    · rw [List.getElem?_append_left hj] at hz
      rw [List.getElem?_append_left (by rw [← h.len]; exact hj)] at hr
      exact h'.row j z r hz hr
    · rw [List.getElem?_append_right (by omega)] at hz
      rw [List.getElem?_append_right (by rw [← h.len]; omega)] at hr
      have hj' : j - vs.length = 0 := by
        have := (List.getElem?_eq_some_iff.1 hz).1
        simp at this; omega
      rw [hj'] at hz
      rw [← h.len, hj'] at hr
      simp at hz hr
      subst hz hr
      exact hu.more hB
  · by_cases hi : i < vs.length
    · rw [List.getElem?_append_left hi] at hz
      have hfz : Fresh B w z _ := h.row i z _ hz (List.getElem?_eq_getElem (by rw [← h.len]; exact hi))
      by_cases hj : j < vs.length
      · rw [List.getElem?_append_left hj] at hy
        exact h.apart i j z y hij hz hy
      · rw [List.getElem?_append_right (by omega)] at hy
        have hy' : y = u := by
          have := (List.getElem?_eq_some_iff.1 hy).1
          have hj' : j - vs.length = 0 := by simp at this; omega
          rw [hj'] at hy; simpa using hy.symm
        subst hy'
        exact Fresh.apart' hfz hu (Nat.le_refl _)
    · rw [List.getElem?_append_right (by omega)] at hz
      have hi' : i - vs.length = 0 := by
        have := (List.getElem?_eq_some_iff.1 hz).1
        simp at this; omega
      have hz' : z = u := by rw [hi'] at hz; simpa using hz.symm
      subst hz'
      by_cases hj : j < vs.length
      · rw [List.getElem?_append_left hj] at hy
        have hfy : Fresh B w y _ := h.row j y _ hy (List.getElem?_eq_getElem (by rw [← h.len]; exact hj))
        exact Fresh.apart hfy hu (Nat.le_refl _)
      · rw [List.getElem?_append_right (by omega)] at hy
        have := (List.getElem?_eq_some_iff.1 hy).1
        simp at this
        omega

theorem Rows_.low {B g : Nat} {w : World} {vs : List Value} {L : List (List Int)} (h : Rows_ B w vs L) (hg : g < B) : ∀ (j : Nat) (u : Value), vs[j]? = some u → u.ownBlock = none ∨ u.ownBlock ≠ some g := by
  intro j u hu
  have hj : j < vs.length := (List.getElem?_eq_some_iff.1 hu).1
  have hf := h.row j u _ hu (List.getElem?_eq_getElem (by rw [← h.len]; exact hj))
  refine .inr fun e => ?_
  have := (World.ownsRow.lt hf g e).1
  omega

/-- v is a slice in new memory whose rows lie in new memory of their own. -/
def FreshSS (B : Nat) (w : World) (v : Value) (L : List (List Int)) : Prop :=
  ∃ vs, w.ownsRow B 37 1 v L.length vs ∧ Rows_ B w vs L ∧ ∀ (j : Nat) (u : Value), vs[j]? = some u → u.ownBlock = none ∨ u.ownBlock ≠ v.ownBlock
theorem FreshSS.ext {B : Nat} {w w' : World} {v : Value} {L : List (List Int)} (h : FreshSS B w v L) (e : Ext w w') : FreshSS B w' v L := by
  obtain ⟨vs, h1, h2, h3⟩ := h
  exact ⟨vs, e.ownsRow h1, h2.ext e, h3⟩
theorem ownsRow_more {B B' e sz n : Nat} {w : World} {v : Value} {xs : List Value} (h : w.ownsRow B e sz v n xs) (hb : B' ≤ B) : w.ownsRow B' e sz v n xs := by
  refine ⟨h.1, ?_⟩
  rcases h.2 with hn | ⟨g, cap, cur, rfl, hbg, rest⟩
  · exact .inl hn
  · exact .inr ⟨g, cap, cur, rfl, by omega, rest⟩
theorem FreshSS.more {B B' : Nat} {w : World} {v : Value} {L : List (List Int)} (h : FreshSS B w v L) (hb : B' ≤ B) : FreshSS B' w v L := by
  obtain ⟨vs, h1, h2, h3⟩ := h
  exact ⟨vs, ownsRow_more h1 hb, h2.more hb, h3⟩
theorem FreshSS.nil (B : Nat) (w : World) : FreshSS B w (.slice none 0 0) [] := ⟨[], World.ownsRow_nil _ _ _ _, Rows_.nil _ _, fun _ _ h => by simp at h⟩
theorem FreshSS.intss {B : Nat} {w : World} {v : Value} {L : List (List Int)} (h : FreshSS B w v L) : Intss w v L := by
  obtain ⟨vs, h1, h2, h3⟩ := h
  have hlen := h2.len
  rcases h1.2 with ⟨rfl, hn⟩ | ⟨g, cap, cur, rfl, hb, hg, hnc, hcm, hcs, htake⟩
  · obtain rfl : L = [] := List.eq_nil_of_length_eq_zero hn
    exact Intss.nil w
  · refine ⟨some ⟨g, 0, none⟩, cap, rfl, by omega, ⟨by omega, by omega, fun h => by cases h⟩, fun _ => ⟨g, 0, rfl, fun j hj => ?_⟩⟩
    have hc := World.ownsRow.cellAt h1 j (by omega)
    have hu : vs[j]? = some (vs[j]'(by omega)) := List.getElem?_eq_getElem (by omega)
    refine ⟨vs[j]'(by omega), by rw [Nat.zero_add, hc, hu], ?_⟩
    have := h2.row j _ _ hu (List.getElem?_eq_getElem hj)
    rw [List.getElem?_eq_getElem hj]
    exact this.ints

theorem Try.infoInts : (Try.prog.info? 37).map (fun i => (i.zero, i.size, i.bytes)) = some (some (.slice none 0 0), 1, 24) := by kernel_rfl
/-- A slice of slices in new memory comes back. -/
def NewIntss (L : List (List Int)) (w : World) (e : Ending) (w' : World) : Prop := ∃ v, e = .returned v ∧ FreshSS w.heap.size w' v L ∧ Ext w w'
def TwoIntss (L : List (List Int)) (b : Bool) (w : World) (e : Ending) (w' : World) : Prop := ∃ v, e = .returned (.tuple #[v, .bool b]) ∧ FreshSS w.heap.size w' v L ∧ Ext w w'

/-- How many numbers there are, and lists. -/
def bulk (L : List (List Int)) : Nat := L.length + (L.map List.length).sum
theorem len_le_sum : ∀ (l : List Nat) (x : Nat), x ∈ l → x ≤ l.sum
  | y :: l, x, h => by
    rcases List.mem_cons.1 h with rfl | h
    · simp
    · have := len_le_sum l x h
      simp; omega
theorem bulk_row {L : List (List Int)} {j : Nat} (h : j < L.length) : (L[j]).length ≤ bulk L := by
  unfold bulk
  have := len_le_sum (L.map List.length) _ (List.mem_map.2 ⟨L[j], List.getElem_mem h, rfl⟩)
  omega
/-- How many numbers the first k lists have. -/
def sumTo (L : List (List Int)) (k : Nat) : Nat := ((L.take k).map List.length).sum
theorem sumTo_succ {L : List (List Int)} {k : Nat} (h : k < L.length) : sumTo L (k + 1) = sumTo L k + (L[k]).length := by
  unfold sumTo
  rw [List.take_add_one, List.getElem?_eq_getElem h, List.map_append, List.sum_append]
  simp only [Option.toList, List.map_cons, List.map_nil, List.sum_cons, List.sum_nil, Nat.add_zero]
theorem sumTo_all (L : List (List Int)) : sumTo L L.length = (L.map List.length).sum := by simp [sumTo]
theorem sumTo_mono {L : List (List Int)} {k : Nat} (h : k ≤ L.length) : sumTo L k ≤ (L.map List.length).sum := by
  induction hd : L.length - k generalizing k with
  | zero =>
    obtain rfl : k = L.length := by omega
    rw [sumTo_all]; exact Nat.le_refl _
  | succ d ih =>
    have hk : k < L.length := by omega
    have := ih (k := k + 1) (by omega) (by omega)
    rw [sumTo_succ hk] at this
    omega

end Go.Proofs.Ythnoeknalpnadaa
