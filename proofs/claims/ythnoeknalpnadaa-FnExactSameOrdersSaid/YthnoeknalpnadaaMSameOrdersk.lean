/- Texts of this proof, part k: words, plain facts, contracts. -/
import Derived.Test.YthnoeknalpnadaaMSameOrdersj
import Derived.Lib.SliceRun
import Derived.Test.YthnoeknalpnadaaMSameOrderse
import Derived.Test.YthnoeknalpnadaaMSameOrdersa
import Derived.Deep.RegionHeld3
import Derived.Test.YthnoeknalpnadaaMSameOrdersf

namespace Go.Proofs.Ythnoeknalpnadaa
open Go.RowKit Go.Maps
set_option linter.unusedVariables false

/-- The first that is not in B, or -1. -/
def firstNot (L B : List (Nat × Nat)) : Int := if L.findIdx (fun z => !decide (z ∈ B)) < L.length then (L.findIdx (fun z => !decide (z ∈ B)) : Int) else -1
theorem firstNot_no {L B : List (Nat × Nat)} (h : ∀ z ∈ L, z ∈ B) : firstNot L B = -1 := by
  unfold firstNot
  rw [if_neg]
  intro hlt
  have := List.findIdx_getElem (w := hlt)
  simp only [Bool.not_eq_true', decide_eq_false_iff_not] at this
  exact this (h _ (List.getElem_mem hlt))
theorem firstNot_at {L B : List (Nat × Nat)} {k : Nat} (hk : k < L.length) (hn : L[k] ∉ B) (h : ∀ z ∈ L.take k, z ∈ B) : firstNot L B = (k : Int) := by
  have e : L.findIdx (fun z => !decide (z ∈ B)) = k := by
    rw [List.findIdx_eq hk]
    refine ⟨by simp [hn], fun j hj => ?_⟩
    have : L[j] ∈ L.take k := by
      rw [List.mem_take_iff_getElem]
      exact ⟨j, by omega, rfl⟩
    simp [h _ this]
  unfold firstNot
  rw [e, if_pos hk]

set_option maxHeartbeats 4000000 in
theorem indexFunc_any (v : Value) (L B : List (Nat × Nat)) (bm b n0 : Nat) (D : DataW Value) (w : World) (hv : InstsAt w v L) (hc : w.cell? ⟨bm, 0, none⟩ = some (.map (some b))) (hm : RowMap w b n0 D) (hd : MapOf D (inL B) (placeV B)) (hl : ∀ z ∈ L, z.1 < 5 ∧ z.2 < 6) :
    Calls Try.prog 165 #[v, .func (.func 118) #[] #[.pointer (some ⟨bm, 0, none⟩)]] w (fun e w' => e = .returned (.int .i64 (firstNot L B)) ∧ Ext w w') := by
  obtain ⟨av, cv, rfl, hlv, hcap, hcv⟩ := hv
  unfold maxLen at hlv
  have DV := Lib.hid hcv
  have HC := Lib.hid hc
  have HM := Lib.hid hm
  have HD := Lib.hid hd
  have HL := Lib.hid hl
  clear hcv hcap hc hm hd hl
  go_enter Try.func165, Try.ntmps165
  go_wp2
  go_loopw [5, 8] (fun _ i wr => ∃ k : Nat, k ≤ L.length ∧ i = .int .i64 k ∧ Hid (∀ z ∈ L.take k, z ∈ B) ∧ Hid (Ext w wr)) (fun _ i _ => L.length - (intOf i).toNat)
  case atStart => exact ⟨0, Nat.zero_le _, rfl, Lib.hid (by simp), Lib.hid (Ext.refl _)⟩
  case round =>
    obtain ⟨k, hk, rfl, hA, hx⟩ := hrel
    by_cases hlt : k < L.length
    · obtain ⟨bv, ov, rfl, dv⟩ := DV.out (by omega)
      obtain ⟨y, hy⟩ : ∃ y, y = L[k] := ⟨_, rfl⟩
      have HY := Lib.hid hy
      have HYL : Hid (y.1 < 5 ∧ y.2 < 6) := Lib.hid (HL.out y (by rw [hy]; exact List.getElem_mem hlt))
      have HLT := Lib.hid hlt
      obtain ⟨g0, g1⟩ := dv k hlt
      rw [← hy] at g0 g1
      have g0 := hx.out.cell g0
      have g1 := hx.out.cell g1
      obtain ⟨m, hmm⟩ : ∃ m, m = decide (y ∈ B) := ⟨_, rfl⟩
      have HMM := Lib.hid hmm
      obtain ⟨p, q⟩ := y
      clear dv hy hmm
      go_wp2_with fail
      refine (notSecond_any B bm b n0 D p q _ (hx.out.cell HC.out) (HM.out.ext hx.out) HD.out HYL.out).mono ?_
      rintro e w5 ⟨rfl, x5⟩
      rw [← HMM.out]
      have X5 := Lib.hid (hx.out.trans x5)
      clear x5 hx g0 g1
      cases m with
      | false =>
        have HF : Hid (firstNot L B = (k : Int)) := Lib.hid (firstNot_at HLT.out (by rw [← HY.out]; exact of_decide_eq_false HMM.out.symm) hA.out)
        clear HMM HY hA
        go_wp2
        go_ret
        exact ⟨by rw [HF.out]; rfl, X5.out⟩
      | true =>
        have HN : Hid (∀ z ∈ L.take (k + 1), z ∈ B) := Lib.hid (fun z hz => by
          rw [List.take_succ_eq_append_getElem HLT.out, List.mem_append, List.mem_singleton] at hz
          rcases hz with h | h
          · exact hA.out z h
          · rw [h, ← HY.out]; exact of_decide_eq_true HMM.out.symm)
        clear HMM HY hA
        go_wp2
        go_roundw
        case rel => exact ⟨k + 1, by have := HLT.out; omega, by go_num, HN, X5⟩
        case measure => simp [intOf]; have := HLT.out; omega
    · obtain rfl : k = L.length := by omega
      have HF : Hid (firstNot L B = -1) := Lib.hid (firstNot_no (by have := hA.out; rwa [List.take_length] at this))
      clear hA
      go_wp2
      go_ret
      exact ⟨by rw [HF.out]; rfl, hx.out⟩
end Go.Proofs.Ythnoeknalpnadaa

namespace Go.Proofs.Ythnoeknalpnadaa
open Go.RowKit Go.Maps Go.Lib
set_option linter.unusedVariables false

theorem zeroInstV (W : World) : (zeroValue 137).run Try.prog W = .ok (.agg #[.int .i64 0, .int .i64 0]) W := by kernel_rfl
theorem run_clearI (w : World) (ty : TypeId) (b o n c : Nat) (hn : 0 < n) (hc : ∀ j, j < n * 2 → (w.cell? ⟨b, o + j, none⟩).isSome = true) (hf : ∀ j, j < n * 2 → w.frozen? ⟨b, o + j, none⟩ = false) :
    (Builtin.clear_ #[150] ty #[.slice (some ⟨b, o, none⟩) n c]).run Try.prog w = .ok (.tuple #[]) (w.setCells b o (List.replicate (n * 2) (.int .i64 0))) := by
  have hzc : (Builtin.zeroCells (Value.agg #[.int .i64 0, .int .i64 0]).cells n).toList = List.replicate (n * 2) (.int .i64 0) := by
    simp [Builtin.zeroCells, Value.cells]
    apply List.ext_getElem
    · simp
    · intro i h1 h2
      have : i % 2 = 0 ∨ i % 2 = 1 := by omega
      rcases this with h | h <;> simp [h]
  have hst := run_storeCells_cells (P := Try.prog) b o (List.replicate (n * 2) (.int .i64 0)) 0 w (by simpa using hc) (by simpa using hf) (by intro v hv'; rw [List.eq_of_mem_replicate hv']; rfl)
  simp only [Nat.add_zero] at hst
  obtain ⟨m, rfl⟩ : ∃ m, n = m + 1 := ⟨n - 1, by omega⟩
  simp [Builtin.clear_, run_underlying Try.underlying150, zeroInstV, hzc, hst]
end Go.Proofs.Ythnoeknalpnadaa

namespace Go.Proofs.Ythnoeknalpnadaa
open Go.RowKit Go.Maps Go.Lib
set_option linter.unusedVariables false

/-- Cells of a row of one's own are written, one behind the other; what stands ahead of them stays. -/
theorem row_setCells {r T size g n cap : Nat} (vs : List Value) : ∀ (o : Nat) (w : World) (xs : List Value), w.ownsRow r T size (.slice (some ⟨g, 0, none⟩) n cap) n xs →
    ∃ xs', (w.setCells g o vs).ownsRow r T size (.slice (some ⟨g, 0, none⟩) n cap) n xs' ∧ xs'.take o = xs.take o ∧ w.grownBy (w.setCells g o vs) (some g) := by
  induction vs with
  | nil => exact fun o w xs h => ⟨xs, h, rfl, World.grownBy.refl _ _⟩
  | cons v t ih =>
    intro o w xs h
    obtain ⟨h1, g1⟩ := h.stored o v
    obtain ⟨xs', h2, h3, g2⟩ := ih (o + 1) _ _ h1
    refine ⟨xs', h2, ?_, g1.trans g2⟩
    have e : xs'.take o = (xs'.take (o + 1)).take o := by rw [List.take_take]; congr 1; omega
    rw [e, h3, List.take_take, List.take_set]
    have e2 : min o (o + 1) = o := by omega
    rw [e2]
    exact List.set_eq_of_length_le (by rw [List.length_take]; omega)
/-- The first m of a row of one's own. -/
theorem row_cut {w : World} {r T size g n cap m : Nat} {xs : List Value} (h : w.ownsRow r T size (.slice (some ⟨g, 0, none⟩) n cap) n xs) (hm : m ≤ n) : w.ownsRow r T size (.slice (some ⟨g, 0, none⟩) m cap) m (xs.take (m * size)) := by
  have hle : m * size ≤ n * size := Nat.mul_le_mul_right _ hm
  refine ⟨by rw [List.length_take, h.1]; omega, ?_⟩
  rcases h.2 with ⟨h', _⟩ | ⟨g', cap', cur, h', hb, hg, hnc, hcm, hcs, htake⟩
  · simp at h'
  · simp only [Value.slice.injEq, Option.some.injEq, Addr.mk.injEq, and_true, true_and] at h'
    obtain ⟨rfl, rfl⟩ := h'
    refine .inr ⟨g, cap, cur, rfl, hb, hg, by omega, hcm, hcs, ?_⟩
    rw [← htake, List.take_take]
    congr 1
    omega
end Go.Proofs.Ythnoeknalpnadaa

namespace Go.Proofs.Ythnoeknalpnadaa
open Go.RowKit Go.Maps Go.Lib
set_option linter.unusedVariables false

/-- Those that are in B. -/
def filt (B L : List (Nat × Nat)) : List (Nat × Nat) := L.filter (fun z => decide (z ∈ B))
theorem filtB_all {B L : List (Nat × Nat)} (h : ∀ z ∈ L, z ∈ B) : filt B L = L := by
  unfold filt
  rw [List.filter_eq_self]
  exact fun z hz => decide_eq_true (h z hz)
theorem filtB_succ {B L : List (Nat × Nat)} {m : Nat} (hm : m < L.length) : filt B (L.take (m + 1)) = filt B (L.take m) ++ (if L[m] ∈ B then [L[m]] else []) := by
  unfold filt
  rw [List.take_succ_eq_append_getElem hm, List.filter_append]
  congr 1
  by_cases h : L[m] ∈ B <;> simp [h]
/-- What DeleteFunc has done when a are kept of the first m. -/
def DelInv (r : Nat) (L B : List (Nat × Nat)) (g cap : Nat) (w wr : World) (a m : Nat) : Prop :=
  ∃ xs, wr.ownsRow r 137 2 (.slice (some ⟨g, 0, none⟩) L.length cap) L.length xs ∧ xs.take (a * 2) = flatI (filt B (L.take m)) ∧ a = (filt B (L.take m)).length ∧ xs.drop (m * 2) = (flatI L).drop (m * 2) ∧ w.grownBy wr (some g)
theorem DelInv.start {r : Nat} {L B : List (Nat × Nat)} {g cap k : Nat} {w wr : World} (hk : k < L.length) (hn : L[k] ∉ B) (h : ∀ z ∈ L.take k, z ∈ B) (hf : wr.ownsRow r 137 2 (.slice (some ⟨g, 0, none⟩) L.length cap) L.length (flatI L)) (hg : w.grownBy wr (some g)) : DelInv r L B g cap w wr k (k + 1) := by
  have e : filt B (L.take (k + 1)) = L.take k := by rw [filtB_succ hk, if_neg hn, List.append_nil, filtB_all h]
  refine ⟨_, hf, ?_, ?_, rfl, hg⟩
  · rw [e]
    have e2 : flatI L = flatI (L.take k) ++ flatI (L.drop k) := by
      conv => lhs; rw [← List.take_append_drop k L]
      unfold flatI
      rw [List.flatMap_append]
    have e3 : (flatI (L.take k)).length = k * 2 := by rw [flatI_len, List.length_take]; congr 1; omega
    rw [e2, List.take_append_of_le_length (by omega), List.take_of_length_le (by omega)]
  · rw [e, List.length_take]; omega
theorem DelInv.kept {r : Nat} {L B : List (Nat × Nat)} {g cap a m : Nat} {w wr w' : World} (h : DelInv r L B g cap w wr a m) (x : Ext wr w') : DelInv r L B g cap w w' a m := by
  obtain ⟨xs, h1, h2, h3, h4, h5⟩ := h
  exact ⟨xs, x.ownsRow h1, h2, h3, h4, h5.trans (x.grownNone.but _)⟩
theorem DelInv.drop {r : Nat} {L B : List (Nat × Nat)} {g cap a m : Nat} {w wr : World} (h : DelInv r L B g cap w wr a m) (hm : m < L.length) (hn : L[m] ∉ B) : DelInv r L B g cap w wr a (m + 1) := by
  obtain ⟨xs, h1, h2, h3, h4, h5⟩ := h
  have e : filt B (L.take (m + 1)) = filt B (L.take m) := by rw [filtB_succ hm, if_neg hn, List.append_nil]
  refine ⟨xs, h1, by rw [e]; exact h2, by rw [e]; exact h3, ?_, h5⟩
  have e1 : (m + 1) * 2 = m * 2 + 2 := by omega
  rw [e1, ← List.drop_drop, h4, List.drop_drop]
theorem DelInv.take {r : Nat} {L B : List (Nat × Nat)} {g cap a m : Nat} {w wr : World} (h : DelInv r L B g cap w wr a m) (ham : a < m) (hm : m < L.length) (hn : L[m] ∈ B) :
    DelInv r L B g cap w ((wr.setCell ⟨g, a * 2, none⟩ (.int .i64 (L[m].1 : Int))).setCell ⟨g, a * 2 + 1, none⟩ (.int .i64 ((L[m].2 : Int) + 1))) (a + 1) (m + 1) := by
  obtain ⟨xs, h1, h2, h3, h4, h5⟩ := h
  have e : filt B (L.take (m + 1)) = filt B (L.take m) ++ [L[m]] := by rw [filtB_succ hm, if_pos hn]
  obtain ⟨r1, g1⟩ := h1.stored (a * 2) (.int .i64 (L[m].1 : Int))
  obtain ⟨r2, g2⟩ := r1.stored (a * 2 + 1) (.int .i64 ((L[m].2 : Int) + 1))
  have hlen : xs.length = L.length * 2 := h1.1
  refine ⟨_, r2, ?_, by rw [e, List.length_append, ← h3]; rfl, ?_, (h5.trans g1).trans g2⟩
  · rw [e]
    have e2 : flatI (filt B (L.take m) ++ [L[m]]) = flatI (filt B (L.take m)) ++ cellsI L[m] := by simp [flatI]
    rw [e2, ← h2]
    apply List.ext_getElem?
    intro i
    have hA : (xs.take (a * 2)).length = a * 2 := by rw [List.length_take]; omega
    rw [List.getElem?_take, List.getElem?_append, hA]
    by_cases h1' : i < a * 2
    · rw [if_pos (by omega), if_pos h1', List.getElem?_set_ne (by omega), List.getElem?_set_ne (by omega), List.getElem?_take, if_pos h1']
    · rw [if_neg h1']
      by_cases h2' : i = a * 2
      · subst h2'
        rw [if_pos (by omega), List.getElem?_set_ne (by omega), List.getElem?_set_self (by omega), Nat.sub_self]
        rfl
      · by_cases h3' : i = a * 2 + 1
        · subst h3'
          rw [if_pos (by omega), List.getElem?_set_self (by rw [List.length_set]; omega)]
          have : a * 2 + 1 - a * 2 = 1 := by omega
          rw [this]
          rfl
        · rw [if_neg (by omega), eq_comm, List.getElem?_eq_none]
          simp [cellsI]
          omega
  · rw [List.drop_set_of_lt (by omega), List.drop_set_of_lt (by omega)]
    have e1 : (m + 1) * 2 = m * 2 + 2 := by omega
    rw [e1, ← List.drop_drop, h4, List.drop_drop]
theorem DelInv.cells {r : Nat} {L B : List (Nat × Nat)} {g cap a m : Nat} {w wr : World} (h : DelInv r L B g cap w wr a m) (hm : m < L.length) :
    wr.cell? ⟨g, m * 2, none⟩ = some (.int .i64 (L[m].1 : Int)) ∧ wr.cell? ⟨g, m * 2 + 1, none⟩ = some (.int .i64 ((L[m].2 : Int) + 1)) := by
  obtain ⟨xs, h1, h2, h3, h4, h5⟩ := h
  obtain ⟨f1, f2⟩ := flatI_at hm
  have k : ∀ j, xs[m * 2 + j]? = (flatI L)[m * 2 + j]? := fun j => by rw [← List.getElem?_drop, h4, List.getElem?_drop]
  refine ⟨?_, ?_⟩
  · rw [h1.cellAt (m * 2) (by omega), ← f1]; exact k 0
  · rw [h1.cellAt (m * 2 + 1) (by omega), ← f2]; exact k 1
end Go.Proofs.Ythnoeknalpnadaa

namespace Go.Proofs.Ythnoeknalpnadaa
open Go.RowKit Go.Maps Go.Lib
set_option linter.unusedVariables false

theorem DelInv.cellsAt {r : Nat} {L B : List (Nat × Nat)} {g cap a m : Nat} {w wr : World} (h : DelInv r L B g cap w wr a m) {y : Nat × Nat} (hy : L[m]? = some y) :
    wr.cell? ⟨g, m * 2, none⟩ = some (.int .i64 (y.1 : Int)) ∧ wr.cell? ⟨g, m * 2 + 1, none⟩ = some (.int .i64 ((y.2 : Int) + 1)) := by
  obtain ⟨hm, rfl⟩ := List.getElem?_eq_some_iff.1 hy
  exact h.cells hm
theorem DelInv.takeAt {r : Nat} {L B : List (Nat × Nat)} {g cap a m : Nat} {w wr : World} (h : DelInv r L B g cap w wr a m) (ham : a < m) {y : Nat × Nat} (hy : L[m]? = some y) (hn : y ∈ B) :
    DelInv r L B g cap w ((wr.setCell ⟨g, a * 2, none⟩ (.int .i64 (y.1 : Int))).setCell ⟨g, a * 2 + 1, none⟩ (.int .i64 ((y.2 : Int) + 1))) (a + 1) (m + 1) := by
  obtain ⟨hm, rfl⟩ := List.getElem?_eq_some_iff.1 hy
  exact h.take ham hm hn
theorem DelInv.dropAt {r : Nat} {L B : List (Nat × Nat)} {g cap a m : Nat} {w wr : World} (h : DelInv r L B g cap w wr a m) {y : Nat × Nat} (hy : L[m]? = some y) (hn : y ∉ B) : DelInv r L B g cap w wr a (m + 1) := by
  obtain ⟨hm, rfl⟩ := List.getElem?_eq_some_iff.1 hy
  exact h.drop hm hn
/-- The cells that are written next may be. -/
theorem DelInv.free {r : Nat} {L B : List (Nat × Nat)} {g cap a m : Nat} {w wr : World} (h : DelInv r L B g cap w wr a m) (ham : a < L.length) :
    (∃ u, wr.cell? ⟨g, a * 2, none⟩ = some u) ∧ (∃ u, wr.cell? ⟨g, a * 2 + 1, none⟩ = some u) ∧ wr.frozen? ⟨g, a * 2, none⟩ = false ∧ wr.frozen? ⟨g, a * 2 + 1, none⟩ = false := by
  obtain ⟨xs, h1, h2, h3, h4, h5⟩ := h
  have hx : xs.length = L.length * 2 := h1.1
  exact ⟨⟨_, (h1.cellAt (a * 2) (by omega)).trans (List.getElem?_eq_getElem (by omega))⟩, ⟨_, (h1.cellAt (a * 2 + 1) (by omega)).trans (List.getElem?_eq_getElem (by omega))⟩, h1.frozenAt _, h1.frozenAt _⟩
theorem DelInv.done {r : Nat} {L B : List (Nat × Nat)} {g cap a : Nat} {w wr : World} (h : DelInv r L B g cap w wr a L.length) (ha : a ≤ L.length) (vs : List Value) :
    FreshIn r (wr.setCells g (a * 2) vs) (.slice (some ⟨g, 0, none⟩) a cap) (filt B L) ∧ w.grownBy (wr.setCells g (a * 2) vs) (some g) := by
  obtain ⟨xs, h1, h2, h3, h4, h5⟩ := h
  rw [List.take_length] at h2 h3
  obtain ⟨xs', r1, r2, r3⟩ := row_setCells vs (a * 2) _ _ h1
  refine ⟨?_, h5.trans r3⟩
  have r4 := row_cut r1 ha
  rw [r2, h2] at r4
  unfold FreshIn
  rw [← h3]
  exact r4
theorem DelInv.clearable {r : Nat} {L B : List (Nat × Nat)} {g cap a m : Nat} {w wr : World} (h : DelInv r L B g cap w wr a m) (ha : a < L.length) (ty : TypeId) (c : Nat) :
    (Builtin.clear_ #[150] ty #[.slice (some ⟨g, a * 2, none⟩) (L.length - a) c]).run Try.prog wr = .ok (.tuple #[]) (wr.setCells g (a * 2) (List.replicate ((L.length - a) * 2) (.int .i64 0))) := by
  obtain ⟨xs, h1, h2, h3, h4, h5⟩ := h
  have hx : xs.length = L.length * 2 := h1.1
  exact run_clearI wr ty g (a * 2) (L.length - a) c (by omega) (fun j hj => by
    rw [h1.cellAt (a * 2 + j) (by omega), List.getElem?_eq_getElem (by omega)]; rfl) (fun j hj => h1.frozenAt _)
theorem firstNot_ex {L B : List (Nat × Nat)} (h : ¬ ∀ z ∈ L, z ∈ B) : ∃ k, ∃ hk : k < L.length, L[k] ∉ B ∧ (∀ z ∈ L.take k, z ∈ B) ∧ firstNot L B = (k : Int) := by
  have hlt : L.findIdx (fun z => !decide (z ∈ B)) < L.length := by
    rw [List.findIdx_lt_length]
    false_or_by_contra
    rename_i hc
    apply h
    intro z hz
    false_or_by_contra
    rename_i hzb
    exact hc ⟨z, hz, by simp [hzb]⟩
  have h1 := List.findIdx_getElem (w := hlt)
  simp only [Bool.not_eq_true', decide_eq_false_iff_not] at h1
  have h2 : ∀ z ∈ L.take (L.findIdx (fun z => !decide (z ∈ B))), z ∈ B := by
    intro z hz
    rw [List.mem_take_iff_getElem] at hz
    obtain ⟨i, hi, rfl⟩ := hz
    have := List.not_of_lt_findIdx (p := fun z => !decide (z ∈ B)) (xs := L) (i := i) (by omega)
    simpa using this
  exact ⟨_, hlt, h1, h2, firstNot_at hlt h1 h2⟩

set_option maxHeartbeats 8000000 in
set_option maxRecDepth 100000 in
theorem deleteFunc_any (r : Nat) (v : Value) (L B : List (Nat × Nat)) (bm b n0 : Nat) (D : DataW Value) (w : World) (hv : FreshIn r w v L) (hne : ∀ g, v.ownBlock = some g → bm ≠ g ∧ b ≠ g) (hc : w.cell? ⟨bm, 0, none⟩ = some (.map (some b))) (hm : RowMap w b n0 D) (hd : MapOf D (inL B) (placeV B)) (hl : ∀ z ∈ L, z.1 < 5 ∧ z.2 < 6) :
    Calls Try.prog 117 #[v, .func (.func 118) #[] #[.pointer (some ⟨bm, 0, none⟩)]] w (fun e w' => ∃ u, e = .returned u ∧ FreshIn r w' u (filt B L) ∧ w.grownBy w' v.ownBlock) := by
  have HV := Lib.hid hv
  have HNE := Lib.hid hne
  have HC := Lib.hid hc
  have HM := Lib.hid hm
  have HD := Lib.hid hd
  have HL := Lib.hid hl
  by_cases hall : ∀ z ∈ L, z ∈ B
  · have HF : Hid (firstNot L B = -1) := Lib.hid (firstNot_no hall)
    have HE : Hid (filt B L = L) := Lib.hid (filtB_all hall)
    clear hv hne hc hm hd hl hall
    go_enter Try.func117, Try.ntmps117
    go_wp2_with fail
    refine (indexFunc_any _ L B bm b n0 D _ HV.out.at HC.out HM.out HD.out HL.out).mono ?_
    rintro e w1 ⟨rfl, x1⟩
    rw [HF.out]
    go_wp2
    go_ret
    exact ⟨_, rfl, by rw [HE.out]; exact HV.out.ext x1, x1.grownNone.but _⟩
  · obtain ⟨k, hk, hn, hb, hf⟩ := firstNot_ex hall
    have HF := Lib.hid hf
    obtain ⟨g, cap, rfl, hcap, hcapm⟩ : ∃ g cap, v = .slice (some ⟨g, 0, none⟩) L.length cap ∧ L.length ≤ cap ∧ cap ≤ maxLen := by
      rcases hv.2 with ⟨_, h0⟩ | ⟨g, cap, cur, e, _, _, h1, h2, _, _⟩
      · omega
      · exact ⟨g, cap, e, h1, h2⟩
    obtain ⟨hbm, hbg⟩ := hne g rfl
    have HBM := Lib.hid hbm
    have HBG := Lib.hid hbg
    have HK := Lib.hid (fun wr (x : Ext w wr) => DelInv.start (r := r) (cap := cap) (w := w) (wr := wr) hk hn hb (HV.out.ext x) (x.grownNone.but _))
    have hkne : ((k : Int) == -1) = false := by simp
    unfold maxLen at hcapm
    clear hv hne hc hm hd hl hall hn hb hf hbm hbg
    go_enter Try.func117, Try.ntmps117
    go_wp2_with fail
    refine (indexFunc_any _ L B bm b n0 D _ HV.out.at HC.out HM.out HD.out HL.out).mono ?_
    rintro e w1 ⟨rfl, x1⟩
    rw [HF.out]
    have HI := Lib.hid (HK.out w1 x1)
    clear x1 HK HF
    go_wp2
    go_loopw [5, 6] (fun i j wr => ∃ a m : Nat, a < m ∧ m ≤ L.length ∧ i = .int .i64 a ∧ j = .int .i64 m ∧ Hid (DelInv r L B g cap w wr a m)) (fun _ j _ => L.length - (intOf j).toNat)
    case atStart => exact ⟨k, k + 1, by omega, by omega, rfl, by go_num, HI⟩
    case round =>
      clear HI hkne hk
      obtain ⟨a, m, ham, hm, rfl, rfl, HI⟩ := hrel
      by_cases hlt : m < L.length
      · have HLT := Lib.hid hlt
        obtain ⟨y, hy⟩ : ∃ y, L[m]? = some y := ⟨_, List.getElem?_eq_getElem hlt⟩
        obtain ⟨g0, g1⟩ := HI.out.cellsAt hy
        have HYL : Hid (y.1 < 5 ∧ y.2 < 6) := Lib.hid (HL.out y (List.mem_of_getElem? hy))
        have HY := Lib.hid hy
        obtain ⟨d, hdd⟩ : ∃ d, d = decide (y ∈ B) := ⟨_, rfl⟩
        have HDD := Lib.hid hdd
        obtain ⟨p, q⟩ := y
        have xa := Ext.alloc1 wr (.cells #[.int .i64 p, .int .i64 ((q : Int) + 1)] 137)
        have HG := Lib.hid HI.out.choose_spec.2.2.2.2
        have HA := Lib.hid (HI.out.kept xa)
        have HCA : Hid (((wr.alloc (.cells #[.int .i64 p, .int .i64 ((q : Int) + 1)] 137))).cell? ⟨bm, 0, none⟩ = some (.map (some b))) := Lib.hid (xa.cell (HG.out.cell HC.out (by have := HBM.out; simpa using this)))
        have HMA : Hid (RowMap (wr.alloc (.cells #[.int .i64 p, .int .i64 ((q : Int) + 1)] 137)) b n0 D) := Lib.hid (RowMap.ext (HM.out.kept HG.out (by have := HBG.out; simpa using this)) xa)
        clear hy hdd xa
        go_wp2_with fail
        refine (notSecond_any B bm b n0 D p q _ HCA.out HMA.out HD.out HYL.out).mono ?_
        rintro e w5 ⟨rfl, x5⟩
        rw [← HDD.out]
        have H5 := Lib.hid (HA.out.kept x5)
        have c0 : w5.cell? ⟨wr.heap.size, 0, none⟩ = some (.int .i64 p) := x5.cell (by go_simp)
        have c1 : w5.cell? ⟨wr.heap.size, 1, none⟩ = some (.int .i64 ((q : Int) + 1)) := x5.cell (by go_simp)
        clear x5 HA HCA HMA HG HI g0 g1
        cases d with
        | true =>
          obtain ⟨⟨f0, h0⟩, ⟨f1, h1⟩, z0, z1⟩ := H5.out.free (by omega)
          have HN := Lib.hid (H5.out.takeAt ham HY.out (of_decide_eq_true HDD.out.symm))
          clear HY HDD H5
          go_wp2
          go_roundw
          case rel => exact ⟨a + 1, m + 1, by omega, by have := HLT.out; omega, by go_num, by go_num, HN⟩
          case measure => simp [intOf]; have := HLT.out; omega
        | false =>
          have HN := Lib.hid (H5.out.dropAt HY.out (of_decide_eq_false HDD.out.symm))
          clear HY HDD H5
          go_wp2
          go_roundw
          case rel => exact ⟨a, m + 1, by omega, by have := HLT.out; omega, rfl, by go_num, HN⟩
          case measure => simp [intOf]; have := HLT.out; omega
      · obtain rfl : m = L.length := by omega
        have hcl := fun ty c => HI.out.clearable ham ty c
        obtain ⟨w6, hw6⟩ : ∃ w6, w6 = wr.setCells g (a * 2) (List.replicate ((L.length - a) * 2) (.int .i64 0)) := ⟨_, rfl⟩
        have HDN := HI.out.done (by omega) (List.replicate ((L.length - a) * 2) (.int .i64 0))
        rw [← hw6] at hcl HDN
        have HDN := Lib.hid HDN
        clear hw6 HI
        go_wp2_with fail
        go_ret
        exact ⟨_, rfl, HDN.out.1, HDN.out.2⟩
end Go.Proofs.Ythnoeknalpnadaa

namespace Go.Proofs.Ythnoeknalpnadaa
open Go.RowKit Go.Maps
set_option linter.unusedVariables false

/-- x ahead of y in one list, behind it in the other, and they interfere. -/
def clash (n : Int) (T : List (List RowD)) (B : List (Nat × Nat)) (x y : Nat × Nat) : Bool := decide (idxOf B y < idxOf B x) && intf n T x y
theorem ordOk_iff {n : Int} {T : List (List RowD)} {A B : List (Nat × Nat)} : ordOk n T A B A.length = true ↔ A.Pairwise (fun x y => hitB n T B x y = false) := by
  rw [List.pairwise_iff_getElem]
  unfold ordOk rowOk hitAt
  simp only [List.all_eq_true, List.mem_range, Bool.not_eq_true']
  constructor
  · intro h i j hi hj hij
    have := h j hj i hij
    rwa [List.getElem?_eq_getElem hi, List.getElem?_eq_getElem hj] at this
  · intro h j hj i hij
    rw [List.getElem?_eq_getElem (by omega), List.getElem?_eq_getElem hj]
    exact h i j (by omega) hj hij
theorem ordOk_filt {n : Int} {T : List (List RowD)} {A B : List (Nat × Nat)} : ordOk n T A B A.length = true ↔ (filt B A).Pairwise (fun x y => clash n T B x y = false) := by
  rw [ordOk_iff]
  unfold filt
  rw [List.pairwise_filter]
  have e : ∀ x y, (hitB n T B x y = false) ↔ (decide (x ∈ B) = true → decide (y ∈ B) = true → clash n T B x y = false) := by
    intro x y
    unfold hitB clash
    by_cases hx : x ∈ B <;> by_cases hy : y ∈ B <;> simp [hx, hy]
  constructor
  · exact fun h => h.imp (fun {x y} hh => (e x y).1 hh)
  · exact fun h => h.imp (fun {x y} hh => (e x y).2 hh)
/-- No clash of one of the first k with one behind it. -/
def noClash (n : Int) (T : List (List RowD)) (B F : List (Nat × Nat)) (k : Nat) : Bool := (List.range k).all fun i => (F.drop (i + 1)).all fun y => !clash n T B (F[i]?.getD (0, 0)) y
/-- .. of x with one of the first m behind it. -/
def noClashAt (n : Int) (T : List (List RowD)) (B F : List (Nat × Nat)) (k m : Nat) : Bool := ((F.drop (k + 1)).take m).all fun y => !clash n T B (F[k]?.getD (0, 0)) y
theorem noClash_succ {n : Int} {T : List (List RowD)} {B F : List (Nat × Nat)} {k : Nat} (h : noClash n T B F k = true) (hk : noClashAt n T B F k (F.drop (k + 1)).length = true) : noClash n T B F (k + 1) = true := by
  unfold noClashAt at hk
  rw [List.take_length] at hk
  unfold noClash at *
  rw [List.range_succ, List.all_append, h]
  simp only [List.all_cons, List.all_nil, Bool.and_true, Bool.true_and]
  exact hk
theorem noClashAt_succ {n : Int} {T : List (List RowD)} {B F : List (Nat × Nat)} {k m : Nat} {y : Nat × Nat} (h : noClashAt n T B F k m = true) (hy : (F.drop (k + 1))[m]? = some y) (hc : clash n T B (F[k]?.getD (0, 0)) y = false) : noClashAt n T B F k (m + 1) = true := by
  unfold noClashAt at *
  rw [List.take_add_one, hy, List.all_append, h]
  simp [hc]
theorem noClash_ord {n : Int} {T : List (List RowD)} {A B : List (Nat × Nat)} (h : noClash n T B (filt B A) (filt B A).length = true) : ordOk n T A B A.length = true := by
  rw [ordOk_filt, List.pairwise_iff_getElem]
  intro i j hi hj hij
  unfold noClash at h
  have h1 := List.all_eq_true.1 h i (List.mem_range.2 hi)
  have h2 := List.all_eq_true.1 h1 (filt B A)[j] (by
    rw [List.mem_drop_iff_getElem]
    exact ⟨j - (i + 1), by omega, by congr 1; omega⟩)
  rw [List.getElem?_eq_getElem hi] at h2
  simpa using h2
theorem clash_ord {n : Int} {T : List (List RowD)} {A B : List (Nat × Nat)} {k m : Nat} {x y : Nat × Nat} (hx : (filt B A)[k]? = some x) (hy : ((filt B A).drop (k + 1))[m]? = some y) (hc : clash n T B x y = true) : ordOk n T A B A.length = false := by
  cases ho : ordOk n T A B A.length with
  | false => rfl
  | true =>
    rw [ordOk_filt, List.pairwise_iff_getElem] at ho
    rw [List.getElem?_drop] at hy
    obtain ⟨h1, rfl⟩ := List.getElem?_eq_some_iff.1 hx
    obtain ⟨h2, rfl⟩ := List.getElem?_eq_some_iff.1 hy
    rw [ho k (k + 1 + m) h1 h2 (by omega)] at hc
    cases hc
end Go.Proofs.Ythnoeknalpnadaa

namespace Go.Proofs.Ythnoeknalpnadaa
open Go.RowKit
set_option linter.unusedVariables false

/-- How many marks rows bear. -/
def weigh (R : List RowD) : List Nat := R.map fun r => 9 + r.l.length
theorem weigh_len (R : List RowD) : (weigh R).length = R.length := by simp [weigh]
theorem weigh_get {R : List RowD} {k : Nat} (h : k < R.length) : (weigh R)[k]'(by rw [weigh_len]; exact h) = 9 + R[k].l.length := by simp [weigh]
theorem weigh_sum (R : List RowD) : (weigh R).sum ≤ 10 * bulkR R := by
  unfold weigh bulkR
  induction R with
  | nil => simp
  | cons r R ih => simp at ih ⊢; omega

set_option maxHeartbeats 4000000 in
set_option maxRecDepth 100000 in
theorem markRowS_any (lo hi : Nat) (v : Value) (R : List RowD) (k : Int) (w : World) (hv : FreshI lo hi w v R) (h0 : 0 ≤ k) (hk : k ≤ 1099511627776) (h1 : bulkR R ≤ 1099511627776) :
    Calls Try.prog 27 #[v, .int .i64 k] w (fun e w' => e = .returned (.int .i64 (k + (weigh R).sum)) ∧ Ins lo hi w w') := by
  obtain ⟨xs, us, ho, hC, hR, hout, hU, hUs⟩ := hv
  have hul : us.length = R.length := by have := hR.len; simpa using this
  have hws := weigh_sum R
  rcases ho.2 with ⟨rfl, hn⟩ | ⟨g, cap, cur, rfl, hb, hg, hnc, hcm, hcs, htake⟩
  · obtain rfl : R = [] := List.eq_nil_of_length_eq_zero hn
    clear h1 hws
    go_enter Try.func27, Try.ntmps27
    go_wp2
    refine wp_loop_rounds 1 ?_; rw [rounds_succ]
    go_wp2
    go_ret
    exact ⟨by simp [weigh], Ins.refl _ _ _⟩
  · have hout' : ∀ (j : Nat) (u : Value), us[j]? = some u → u.ownBlock = none ∨ u.ownBlock ≠ some g := hout
    have hgi : lo ≤ g ∧ g < hi := ⟨hb, hU g rfl⟩
    have hfr : Hid (∀ i (h : i < R.length) (h' : i < us.length), 0 ≤ i → Fresh lo w us[i] R[i].l) := Lib.hid fun i h h' _ => hR.row i _ _ (List.getElem?_eq_getElem h') (by simp [List.getElem?_eq_getElem h])
    have hxr : Hid (∀ i (h : i < R.length) (h' : i < us.length), 0 ≤ i → XRow xs (i * 10) R[i] us[i]) := Lib.hid fun i h h' _ => hC i h h'
    have HOUT := Lib.hid hout'
    have HAP := Lib.hid hR.apart
    have HUS := Lib.hid hUs
    have HUL := Lib.hid hul
    have HWS := Lib.hid hws
    have HGI := Lib.hid hgi
    have H1 := Lib.hid h1
    have hLen : R.length ≤ 1099511627776 := by unfold bulkR at h1; omega
    clear hg hnc hcm hcs htake cur hb hout hout' hU hUs hul hR hC hws hgi h1
    go_enter Try.func27, Try.ntmps27
    go_wp2
    go_loopw [1, 5] (fun m i wr => ∃ (j : Nat) (r : Int) (ys : List Value), j ≤ R.length ∧ i = .int .i64 j ∧ m = .int .i64 r ∧ Hid (r = k + sumN (weigh R) j) ∧ wr.ownsRow lo 71 10 (.slice (some ⟨g, 0, none⟩) R.length cap) R.length ys ∧ Hid (∀ i (h : i < R.length) (h' : i < us.length), j ≤ i → Fresh lo wr us[i] R[i].l) ∧ Hid (∀ i (h : i < R.length) (h' : i < us.length), j ≤ i → XRow ys (i * 10) R[i] us[i]) ∧ Ins lo hi w wr) (fun _ i _ => R.length - (intOf i).toNat)
    case atStart => exact ⟨0, k, xs, Nat.zero_le _, rfl, rfl, Lib.hid (by rw [sumN_zero]; simp), ho, hfr, hxr, Ins.refl _ _ _⟩
    case round =>
      clear ho hfr hxr
      obtain ⟨j, r, ys, hj, rfl, rfl, hr, ho, hF, hX, hI⟩ := hrel
      by_cases hlt : j < R.length
      · have hju : j < us.length := by rw [HUL.out]; exact hlt
        obtain ⟨d, hd⟩ : ∃ d, d = R[j] := ⟨_, rfl⟩
        obtain ⟨u, hu⟩ : ∃ u, u = us[j] := ⟨_, rfl⟩
        have hx := hX.out j hlt hju (Nat.le_refl _)
        have hf := hF.out j hlt hju (Nat.le_refl _)
        rw [← hd, ← hu] at hx hf
        have hlen : d.l.length ≤ 1099511627776 := by rw [hd]; have := bulkR_row hlt; have := H1.out; omega
        have hr0 : 0 ≤ r := by have := hr.out; omega
        have hr1 : r ≤ 21990232555520 := by
          have h := hr.out
          have h2 := sumN_mono (g := weigh R) (k := j) (by rw [weigh_len]; omega)
          have := HWS.out; have := H1.out; omega
        obtain ⟨g0, g1, g2, g3, g4, g5, g6, g7, g8, g9⟩ := hx.rowIn ho hlt
        have gf : ∀ q, wr.frozen? ⟨g, q, none⟩ = false := fun q => ho.frozenAt q
        obtain ⟨au, cu, rfl⟩ := hf.form
        have HO := Lib.hid ho
        have HFF := Lib.hid hf
        have HD := Lib.hid hd
        have HU := Lib.hid hu
        clear ho hf hx hd hu
        have hst := ownsRow_stores [.int .i64 r, .int .i64 (r + 1), .int .i64 (r + 1 + 1), .int .i64 (r + 1 + 1 + 1), .int .i64 (r + 1 + 1 + 1 + 1), .int .i64 (r + 1 + 1 + 1 + 1 + 1), .int .i64 (r + 1 + 1 + 1 + 1 + 1 + 1), .int .i64 (r + 1 + 1 + 1 + 1 + 1 + 1 + 1), .int .i64 (r + 1 + 1 + 1 + 1 + 1 + 1 + 1 + 1)] (j * 10) wr ys HO.out
        have hub : ∀ b, (Value.slice au d.l.length cu).ownBlock = some b → lo ≤ b ∧ b < hi ∧ b ≠ g := fun b e => by
          have h1 := (World.ownsRow.lt HFF.out b e).1
          have hju' : us[j]? = some (.slice au d.l.length cu) := by rw [List.getElem?_eq_getElem hju, HU.out]
          have h2 := HUS.out j _ hju' b e
          refine ⟨h1, h2, fun e' => ?_⟩
          rcases HOUT.out j _ hju' with h | h
          · rw [h] at e; cases e
          · exact h (by rw [e, e'])
        have hf9 : Fresh lo (wr.setCells g (j * 10) [.int .i64 r, .int .i64 (r + 1), .int .i64 (r + 1 + 1), .int .i64 (r + 1 + 1 + 1), .int .i64 (r + 1 + 1 + 1 + 1), .int .i64 (r + 1 + 1 + 1 + 1 + 1), .int .i64 (r + 1 + 1 + 1 + 1 + 1 + 1), .int .i64 (r + 1 + 1 + 1 + 1 + 1 + 1 + 1), .int .i64 (r + 1 + 1 + 1 + 1 + 1 + 1 + 1 + 1)]) (.slice au d.l.length cu) d.l := World.ownsRow.kept HFF.out hst.2 (by
          cases hob : (Value.slice au d.l.length cu).ownBlock with
          | none => exact .inl rfl
          | some b => exact .inr fun e => (hub b hob).2.2 (Option.some.inj e))
        have hi9 : Ins lo hi wr (wr.setCells g (j * 10) [.int .i64 r, .int .i64 (r + 1), .int .i64 (r + 1 + 1), .int .i64 (r + 1 + 1 + 1), .int .i64 (r + 1 + 1 + 1 + 1), .int .i64 (r + 1 + 1 + 1 + 1 + 1), .int .i64 (r + 1 + 1 + 1 + 1 + 1 + 1), .int .i64 (r + 1 + 1 + 1 + 1 + 1 + 1 + 1), .int .i64 (r + 1 + 1 + 1 + 1 + 1 + 1 + 1 + 1)]) := Ins.of_grown hst.2 (fun q e => by rw [← Option.some.inj e]; exact HGI.out)
        have HST := Lib.hid hst
        have HUB := Lib.hid hub
        have HF9 := Lib.hid hf9
        have HI9 := Lib.hid hi9
        clear hst hub hf9 hi9
        go_wp2_with fail
        refine (markIntS_any lo _ d.l _ (wr.setCells g (j * 10) [.int .i64 r, .int .i64 (r + 1), .int .i64 (r + 1 + 1), .int .i64 (r + 1 + 1 + 1), .int .i64 (r + 1 + 1 + 1 + 1), .int .i64 (r + 1 + 1 + 1 + 1 + 1), .int .i64 (r + 1 + 1 + 1 + 1 + 1 + 1), .int .i64 (r + 1 + 1 + 1 + 1 + 1 + 1 + 1), .int .i64 (r + 1 + 1 + 1 + 1 + 1 + 1 + 1 + 1)]) HF9.out (by omega) (by omega)).mono ?_
        rintro e w3 ⟨rfl, f3, t3⟩
        have T3 := Lib.hid t3
        have hs := sumN_succ (g := weigh R) (k := j) (by rw [weigh_len]; exact hlt)
        rw [weigh_get hlt, ← HD.out] at hs
        have HS := Lib.hid hs
        clear f3 t3 hs g0 g1 g2 g3 g4 g5 g6 g7 g8 g9 gf
        obtain ⟨q, hq⟩ : ∃ q, q = r + 1 + 1 + 1 + 1 + 1 + 1 + 1 + 1 + 1 + (d.l.length : Int) := ⟨_, rfl⟩
        have hq0 : 0 ≤ q := by omega
        rw [← hq]
        have HQ := Lib.hid hq
        clear hq
        go_wp2
        go_roundw
        case rel =>
          have hju' : us[j]? = some (.slice au d.l.length cu) := by rw [List.getElem?_eq_getElem hju, HU.out]
          refine ⟨j + 1, q, _, by omega, by go_num, rfl, Lib.hid (by have h1 := hr.out; have h2 := HS.out; have h3 := HQ.out; omega), World.ownsRow.kept HST.out.1 T3.out ?_, Lib.hid fun i h h' hij => ?_, Lib.hid fun i h h' hij => ?_, (hI.trans HI9.out).trans (Ins.of_grown T3.out (fun b e => ⟨(HUB.out b e).1, (HUB.out b e).2.1⟩))⟩
          · refine .inr fun e => ?_
            have := (HUB.out g e.symm).2.2
            exact this rfl
          · have h9 : Fresh lo (wr.setCells g (j * 10) [.int .i64 r, .int .i64 (r + 1), .int .i64 (r + 1 + 1), .int .i64 (r + 1 + 1 + 1), .int .i64 (r + 1 + 1 + 1 + 1), .int .i64 (r + 1 + 1 + 1 + 1 + 1), .int .i64 (r + 1 + 1 + 1 + 1 + 1 + 1), .int .i64 (r + 1 + 1 + 1 + 1 + 1 + 1 + 1), .int .i64 (r + 1 + 1 + 1 + 1 + 1 + 1 + 1 + 1)]) us[i] R[i].l := World.ownsRow.kept (hF.out i h h' (by omega)) HST.out.2 (HOUT.out i _ (List.getElem?_eq_getElem h'))
            exact World.ownsRow.kept h9 T3.out (HAP.out i j _ _ (by omega) (List.getElem?_eq_getElem h') hju')
          · have hl9 : ∀ (vs : List Value), vs.length = 9 → XRow (putL ys (j * 10) vs) (i * 10) R[i] us[i] := fun vs hvs => by
              obtain ⟨p0, p1, p2, p3, p4, p5, p6, p7, p8, p9⟩ := hX.out i h h' (by omega)
              refine ⟨?_, ?_, ?_, ?_, ?_, ?_, ?_, ?_, ?_, ?_⟩ <;> (rw [putL_out _ _ _ _ (by rw [hvs]; omega)]; assumption)
            exact hl9 _ rfl
        case measure => simp [intOf]; omega
      · obtain rfl : j = R.length := by omega
        go_wp2
        go_ret
        refine ⟨?_, hI⟩
        have h := hr.out
        have h2 := sumN_all (weigh R)
        rw [weigh_len] at h2
        rw [h2] at h
        rw [h]; rfl

end Go.Proofs.Ythnoeknalpnadaa

namespace Go.Proofs.Ythnoeknalpnadaa
open Go.RowKit
set_option linter.unusedVariables false

def weighs (T : List (List RowD)) : List Nat := T.map fun R => (weigh R).sum
theorem weighs_len (T : List (List RowD)) : (weighs T).length = T.length := by simp [weighs]
theorem weighs_get {T : List (List RowD)} {k : Nat} (h : k < T.length) : (weighs T)[k]'(by rw [weighs_len]; exact h) = (weigh T[k]).sum := by simp [weighs]
theorem weighs_sum (T : List (List RowD)) : (weighs T).sum ≤ 10 * bulkT T := by
  unfold weighs bulkT
  induction T with
  | nil => simp
  | cons R T ih =>
    have := weigh_sum R
    simp at ih ⊢; omega

/-- So many marks were laid, and nothing else has turned. -/
def Marked (lo hi : Nat) (k : Int) (n : Nat) (w : World) (e : Ending) (w' : World) : Prop := e = .returned (.int .i64 (k + n)) ∧ Ins lo hi w w'

set_option maxHeartbeats 4000000 in
set_option maxRecDepth 100000 in
theorem markRowSS_any (lo hi : Nat) (v : Value) (T : List (List RowD)) (k : Int) (w : World) (hv : FreshT lo hi w v T) (h0 : 0 ≤ k) (hk : k ≤ 1048576) (h1 : bulkT T ≤ 10995116277) :
    Calls Try.prog 109 #[v, .int .i64 k] w (Marked lo hi k (weighs T).sum w) := by
  obtain ⟨vs, cut, ho, hU, hcut, hc0, hcn, hF⟩ := hv
  have hvl : vs.length = T.length := by have := ho.1; omega
  have hws := weighs_sum T
  rcases ho.2 with ⟨rfl, hn⟩ | ⟨g, cap, cur, rfl, hb, hg, hnc, hcm, hcs, htake⟩
  · obtain rfl : T = [] := List.eq_nil_of_length_eq_zero hn
    clear h1 hws
    go_enter Try.func109, Try.ntmps109
    go_wp2
    refine wp_loop_rounds 1 ?_; rw [rounds_succ]
    go_wp2
    go_ret
    exact ⟨by simp [weighs], Ins.refl _ _ _⟩
  · have hgc : g < cut 0 := hU g rfl
    have hm := cut_mono hcut
    have hfr : Hid (∀ i (h : i < T.length) (h' : i < vs.length), 0 ≤ i → FreshI (cut i) (cut (i + 1)) w vs[i] T[i]) := Lib.hid fun i h h' _ => hF i h h'
    have HM := Lib.hid hm
    have HGC := Lib.hid hgc
    have HC0 := Lib.hid hc0
    have HCN := Lib.hid hcn
    have HVL := Lib.hid hvl
    have HWS := Lib.hid hws
    have H1 := Lib.hid h1
    have hLen : T.length ≤ 1099511627776 := by unfold bulkT at h1; omega
    clear hg hnc hcm hcs htake cur hb hU hcut hF hm hgc hc0 hcn hvl hws h1
    go_enter Try.func109, Try.ntmps109
    go_wp2
    go_loopw [1, 5] (fun m i wr => ∃ (j : Nat) (r : Int), j ≤ T.length ∧ i = .int .i64 j ∧ m = .int .i64 r ∧ Hid (r = k + sumN (weighs T) j) ∧ wr.ownsRow lo 42 1 (.slice (some ⟨g, 0, none⟩) T.length cap) T.length vs ∧ Hid (∀ i (h : i < T.length) (h' : i < vs.length), j ≤ i → FreshI (cut i) (cut (i + 1)) wr vs[i] T[i]) ∧ Ins lo hi w wr) (fun _ i _ => T.length - (intOf i).toNat)
    case atStart => exact ⟨0, k, Nat.zero_le _, rfl, rfl, Lib.hid (by rw [sumN_zero]; simp), ho, hfr, Ins.refl _ _ _⟩
    case round =>
      clear ho hfr
      obtain ⟨j, r, hj, rfl, rfl, hr, ho, hF, hI⟩ := hrel
      by_cases hlt : j < T.length
      · have hjv : j < vs.length := by rw [HVL.out]; exact hlt
        obtain ⟨d, hd⟩ : ∃ d, d = T[j] := ⟨_, rfl⟩
        obtain ⟨u, hu⟩ : ∃ u, u = vs[j] := ⟨_, rfl⟩
        have hf := hF.out j hlt hjv (Nat.le_refl _)
        rw [← hd, ← hu] at hf
        have hlen : bulkR d ≤ 1099511627776 := by rw [hd]; have := bulkT_row hlt; have := H1.out; omega
        have hr0 : 0 ≤ r := by have := hr.out; omega
        have hr1 : r ≤ 1099511627776 := by
          have h := hr.out
          have h2 := sumN_mono (g := weighs T) (k := j) (by rw [weighs_len]; omega)
          have := HWS.out; have := H1.out; omega
        have hwd := weigh_sum d
        have hc := (ho.cellAt j (by omega)).trans (List.getElem?_eq_getElem hjv)
        rw [← hu] at hc
        have HO := Lib.hid ho
        have HFF := Lib.hid hf
        have HD := Lib.hid hd
        have HU := Lib.hid hu
        clear ho hf hd hu
        go_wp2_with fail
        refine (markRowS_any (cut j) (cut (j + 1)) _ d _ _ HFF.out hr0 hr1 hlen).mono ?_
        rintro e w3 ⟨rfl, t3⟩
        have T3 := Lib.hid t3
        have hs := sumN_succ (g := weighs T) (k := j) (by rw [weighs_len]; exact hlt)
        rw [weighs_get hlt, ← HD.out] at hs
        have HS := Lib.hid hs
        clear t3 hs hc
        obtain ⟨q, hq⟩ : ∃ q, q = r + ((weigh d).sum : Int) := ⟨_, rfl⟩
        have hq0 : 0 ≤ q := by omega
        rw [← hq]
        have HQ := Lib.hid hq
        clear hq
        go_wp2
        go_roundw
        case rel =>
          have m1 := HM.out 0 j (by omega) (by omega)
          have m2 := HM.out (j + 1) T.length (by omega) (Nat.le_refl _)
          have m3 := HGC.out
          have m4 := HC0.out
          have m5 := HCN.out
          refine ⟨j + 1, q, by omega, by go_num, rfl, Lib.hid (by have h1 := hr.out; have h2 := HS.out; have h3 := HQ.out; omega), T3.out.row HO.out (fun b e => .inl (by have := Option.some.inj e; simp at this; omega)), Lib.hid fun i h h' hij => ?_, hI.trans (T3.out.more (by omega) (by omega))⟩
          obtain ⟨zs, us, q1, q2, q3, q4, q5, q6⟩ := hF.out i h h' (by omega)
          have m6 := HM.out (j + 1) i (by omega) (by omega)
          refine ⟨zs, us, T3.out.row q1 (fun b e => .inr (by have := (World.ownsRow.lt q1 b e).1; omega)), q2, ⟨q3.len, fun a z l hz hl => T3.out.row (q3.row a z l hz hl) (fun b e => .inr (by have := (World.ownsRow.lt (q3.row a z l hz hl) b e).1; omega)), q3.apart⟩, q4, q5, q6⟩
        case measure => simp [intOf]; omega
      · obtain rfl : j = T.length := by omega
        go_wp2
        go_ret
        refine ⟨?_, hI⟩
        have h := hr.out
        have h2 := sumN_all (weighs T)
        rw [weighs_len] at h2
        rw [h2] at h
        rw [h]; rfl

set_option maxHeartbeats 1000000 in
theorem markTable_any (lo hi : Nat) (n : Int) (v : Value) (T : List (List RowD)) (k : Int) (w : World) (hv : FreshT lo hi w v T) (hhi : hi ≤ w.heap.size) (h0 : 0 ≤ k) (hk : k ≤ 1048576) (h1 : bulkT T ≤ 10995116277) :
    Calls Try.prog 44 #[.agg #[.int .i64 n, v], .int .i64 k] w (Marked lo hi k (weighs T).sum w) := by
  have hws := weighs_sum T
  have hq0 : 0 ≤ k + ((weighs T).sum : Int) := by omega
  have HX : Hid (Ins lo hi w (w.alloc (.cells #[.int .i64 n, v] 24))) := Lib.hid (Ins.of_ext (Ext.alloc (Ext.refl _) _))
  have HV := Lib.hid (hv.kept (Stood.of_ext (Ext.alloc (Ext.refl _) (.cells #[.int .i64 n, v] 24)) hhi))
  have H1 := Lib.hid h1
  clear hws hv h1
  go_enter Try.func44, Try.ntmps44
  go_wp2_with fail
  refine (markRowSS_any lo hi _ T _ _ HV.out h0 hk H1.out).mono ?_
  rintro e w1 ⟨rfl, t1⟩
  have T1 := Lib.hid t1
  clear t1
  go_wp2
  go_ret
  exact ⟨rfl, HX.out.trans T1.out⟩

end Go.Proofs.Ythnoeknalpnadaa

namespace Go.Proofs.Ythnoeknalpnadaa
open Go.RowKit
set_option linter.unusedVariables false

set_option maxHeartbeats 1000000 in
theorem markRow_any (B : Nat) (r : RowD) (u : Value) (k : Int) (w : World) (hv : Fresh B w u r.l) (h0 : 0 ≤ k) (h1 : k + r.l.length ≤ 4611686018427387904) :
    Calls Try.prog 45 #[.agg #[.int .i64 r.b, .int .i64 r.v, .int .i64 r.st, .int .i64 r.k, .int .i64 r.i, .int .i64 r.f, .int .i64 r.t, .int .i64 r.a, .int .i64 r.s, u], .int .i64 k] w (MarkedA B k u r.l w) := by
  have H1 := Lib.hid h1
  clear h1
  go_enter Try.func45, Try.ntmps45
  go_wp2_with fail
  refine (markAttr_any B _ _ r.l _ _ (hv.ext (Ext.alloc (Ext.refl _) _)) h0 H1.out).mono ?_
  rintro e w1 ⟨rfl, f1, t1⟩
  have T := Lib.hid t1
  have F := Lib.hid f1
  clear t1 f1 hv
  go_wp2
  go_ret
  exact ⟨rfl, F.out, (World.grownBy_alloc _ _ _).trans T.out⟩

set_option maxHeartbeats 1000000 in
theorem heldRow_yes (r : RowD) (u : Value) (n : Nat) (k : Int) (w : World) (hv : Ints w u (marks k n)) (h0 : 0 ≤ k) (h1 : k + n ≤ 4611686018427387904) :
    Calls Try.prog 54 #[.agg #[.int .i64 r.b, .int .i64 r.v, .int .i64 r.st, .int .i64 r.k, .int .i64 r.i, .int .i64 r.f, .int .i64 r.t, .int .i64 r.a, .int .i64 r.s, u], .int .i64 k] w (IntExt (k + n) w) := by
  have H1 := Lib.hid h1
  have hk : 0 ≤ k + (n : Int) := by omega
  go_enter Try.func54, Try.ntmps54
  go_wp2_with fail
  refine (heldAttr_yes _ _ n _ _ (hv.ext (Ext.alloc (Ext.refl _) _)) h0 H1.out).mono ?_
  rintro e w1 ⟨rfl, x1⟩
  have hx : Ext w w1 := (Ext.alloc (Ext.refl _) _).trans x1
  clear x1 hv
  go_wp2
  go_ret
  exact ⟨rfl, hx⟩

theorem RowAt.ins {lo hi b : Nat} {w w' : World} {r : RowD} {u : Value} (h : RowAt w b r u) (k : Ins lo hi w w') (hb : b < lo ∨ hi ≤ b) : RowAt w' b r u := by
  obtain ⟨h0, h1, h2, h3, h4, h5, h6, h7, h8, h9⟩ := h
  exact ⟨k.cell h0 hb, k.cell h1 hb, k.cell h2 hb, k.cell h3 hb, k.cell h4 hb, k.cell h5 hb, k.cell h6 hb, k.cell h7 hb, k.cell h8 hb, k.cell h9 hb⟩
theorem AttrAt.ins {lo hi b : Nat} {w w' : World} {s : Int} {u : Value} (h : AttrAt w b s u) (k : Ins lo hi w w') (hb : b < lo ∨ hi ≤ b) : AttrAt w' b s u := ⟨k.cell h.1 hb, k.cell h.2 hb⟩
theorem Rowzz.ins {lo hi : Nat} {w0 w w' : World} {v : Value} {T : List (List RowD)} (h0 : Rowzz w0 v T) (x : Ext w0 w) (k : Ins lo hi w w') (hb : w0.heap.size ≤ lo) : Rowzz w' v T := h0.ext (k.ext x hb)

end Go.Proofs.Ythnoeknalpnadaa

namespace Go.Proofs.Ythnoeknalpnadaa
open Go.RowKit
set_option linter.unusedVariables false

theorem eqss_succ {L R : List (List Int)} {k : Nat} (h1 : k < L.length) (h2 : k < R.length) (h : L.take k = R.take k) (he : L[k] = R[k]) : L.take (k + 1) = R.take (k + 1) := by
  rw [List.take_add_one, List.take_add_one, h, List.getElem?_eq_getElem h1, List.getElem?_eq_getElem h2, he]

set_option maxHeartbeats 400000 in
theorem eqIntSS_any (u v : Value) (L R : List (List Int)) (w : World) (hu : Intss w u L) (hv : Intss w v R) :
    Calls Try.prog 51 #[u, v] w (BoolExt (decide (L = R)) w) := by
  obtain ⟨au, cu, rfl, hlu, _, hcu⟩ := hu
  obtain ⟨av, cv, rfl, hlv, _, hcv⟩ := hv
  unfold maxLen at hlu hlv
  by_cases hl : L.length = R.length
  · have e0 : ((L.length : Int) != (R.length : Int)) = false := by simp [hl]
    have HL := Lib.hid hl
    clear hl
    go_enter Try.func51, Try.ntmps51
    go_wp2
    go_loopw [5] (fun i wr => ∃ k : Nat, k ≤ L.length ∧ i = .int .i64 k ∧ L.take k = R.take k ∧ Ext w wr) (fun i _ => L.length - (intOf i).toNat)
    case atStart => exact ⟨0, Nat.zero_le _, rfl, rfl, Ext.refl _⟩
    case round =>
      obtain ⟨k, hk, rfl, ht, hx⟩ := hrel
      have HT := Lib.hid ht
      clear ht
      by_cases hlt : k < L.length
      · have hltr : k < R.length := by have := HL.out; omega
        obtain ⟨bu, ou, rfl, du⟩ := hcu (by omega)
        obtain ⟨bv, ov, rfl, dv⟩ := hcv (by omega)
        obtain ⟨x, hx1, ix⟩ := du k hlt
        obtain ⟨y, hy1, iy⟩ := dv k hltr
        rw [List.getElem?_eq_getElem hlt] at ix
        rw [List.getElem?_eq_getElem hltr] at iy
        have gu := hx.cell hx1
        have gv := hx.cell hy1
        have IX := Lib.hid (ix.ext hx)
        have IY := Lib.hid (iy.ext hx)
        clear hcu hcv du dv hx1 hy1 ix iy
        go_wp2_with fail
        go_region_held3 (fun W => Ext wr W ∧ W.cell? ⟨bu, ou + k, none⟩ = some x ∧ W.cell? ⟨bv, ov + k, none⟩ = some y) (first | (exact step2 (by assumption) (by assumption)) | (exact ⟨Ext.drew (Ext.refl _), gu, gv⟩)) (first | (go_at_call 63; refine (eqIntS_any _ _ _ _ _ (IX.out.ext (Ext.drew (Ext.refl _))) (IY.out.ext (Ext.drew (Ext.refl _)))).mono ?_; rintro e W ⟨rfl, x9⟩))
        rename_i hH
        have hx2 : Ext w W := hx.trans hH.1
        clear hH x9 gu gv hx
        by_cases he : L[k] = R[k]
        · rw [decide_eq_true he]
          have HE := Lib.hid he
          clear he
          go_wp2
          go_roundw
          case rel => exact ⟨k + 1, by omega, by go_num, eqss_succ hlt hltr HT.out HE.out, hx2⟩
          case measure => simp [intOf]; omega
        · rw [decide_eq_false he]
          have HE := Lib.hid he
          clear he
          go_wp2
          go_ret
          refine ⟨?_, hx2⟩
          have hne : decide (L = R) = false := decide_eq_false (fun h => HE.out (by subst h; rfl))
          rw [hne]; rfl
      · have hk' : k = L.length := by omega
        subst hk'
        go_wp2
        go_ret
        refine ⟨?_, hx⟩
        have he : decide (L = R) = true := by
          have h := HT.out
          rw [List.take_length, HL.out, List.take_length] at h
          exact decide_eq_true h
        rw [he]; rfl
  · have e0 : ((L.length : Int) != (R.length : Int)) = true := by simp; omega
    have HL := Lib.hid hl
    clear hl
    go_enter Try.func51, Try.ntmps51
    go_wp2
    go_ret
    refine ⟨?_, Ext.refl w⟩
    have hne : decide (L = R) = false := decide_eq_false (fun h => HL.out (by rw [h]))
    rw [hne]; rfl

end Go.Proofs.Ythnoeknalpnadaa

namespace Go.Proofs.Ythnoeknalpnadaa
open Go.RowKit
set_option linter.unusedVariables false

/-- The first j lists bear marks, the others are as they were. -/
def markedSS (k : Int) (L : List (List Int)) (j : Nat) : List (List Int) := (List.range L.length).map fun i => if i < j then marks (k + sumTo L i) (L[i]?.getD []).length else L[i]?.getD []
theorem markedSS_length (k : Int) (L : List (List Int)) (j : Nat) : (markedSS k L j).length = L.length := by simp [markedSS]
theorem markedSS_zero (k : Int) (L : List (List Int)) : markedSS k L 0 = L := by
  apply List.ext_getElem
  · simp [markedSS]
  · intro i h1 h2
    simp [markedSS, List.getElem?_eq_getElem h2]
theorem markedSS_old {k : Int} {L : List (List Int)} {j i : Nat} (hi : i < L.length) (h : j ≤ i) : (markedSS k L j)[i]? = some L[i] := by
  simp [markedSS, hi, Nat.not_lt.2 h]
theorem markedSS_new {k : Int} {L : List (List Int)} {j i : Nat} (hi : i < L.length) (h : i < j) : (markedSS k L j)[i]? = some (marks (k + sumTo L i) (L[i]).length) := by
  simp [markedSS, hi, h]
theorem markedSS_succ {k : Int} {L : List (List Int)} {j : Nat} (h : j < L.length) : (markedSS k L j).set j (marks (k + sumTo L j) (L[j]).length) = markedSS k L (j + 1) := by
  apply List.ext_getElem?
  intro i
  rw [List.getElem?_set, markedSS_length]
  by_cases hi : i < L.length
  · by_cases e : j = i
    · subst e
      rw [if_pos rfl, if_pos h, markedSS_new h (by omega)]
    · rw [if_neg e]
      by_cases hij : i < j
      · rw [markedSS_new hi hij, markedSS_new hi (by omega)]
      · rw [markedSS_old hi (by omega), markedSS_old hi (by omega)]
  · rw [List.getElem?_eq_none (by rw [markedSS_length]; omega), List.getElem?_eq_none (by rw [markedSS_length]; omega)]
    split
    · omega
    · rfl

theorem Rows_.mark {B : Nat} {w w' : World} {vs : List Value} {L : List (List Int)} {j : Nat} {z : Value} {l : List Int} (h : Rows_ B w vs L) (hj : vs[j]? = some z) (t : w.grownBy w' z.ownBlock) (hz : Fresh B w' z l) : Rows_ B w' vs (L.set j l) := by
  have hjl : j < L.length := by rw [← h.len]; exact (List.getElem?_eq_some_iff.1 hj).1
  refine ⟨by simp [h.len], fun i u r hu hr => ?_, h.apart⟩
  rw [List.getElem?_set] at hr
  by_cases e : j = i
  · subst e
    rw [if_pos rfl, if_pos hjl] at hr
    rw [hj] at hu
    cases hu
    cases hr
    exact hz
  · rw [if_neg e] at hr
    exact World.ownsRow.kept (h.row i u r hu hr) t (h.apart i j u z (fun e' => e e'.symm) hu hj)

/-- What comes back of the marks: the number behind the last, and nothing below B has turned. -/
def MarksSS (B : Nat) (k : Int) (v : Value) (L : List (List Int)) (w : World) (e : Ending) (w' : World) : Prop :=
  e = .returned (.int .i64 (k + (L.map List.length).sum)) ∧ FreshSS B w' v (markedSS k L L.length) ∧ Below B w w'

/-- What was made before B stands while nothing below B turns. -/
theorem Ext.under {B : Nat} {w0 w w' : World} (e : Ext w0 w) (k : Below B w w') (hb : w0.heap.size ≤ B) : Ext w0 w' := Below.trans e (Below.mono k hb)

end Go.Proofs.Ythnoeknalpnadaa

namespace Go.Proofs.Ythnoeknalpnadaa
open Go.RowKit
set_option linter.unusedVariables false

theorem eqIntSS_self (u v : Value) (L : List (List Int)) (w : World) (hu : Intss w u L) (hv : Intss w v L) : Calls Try.prog 51 #[u, v] w (BoolExt true w) := by
  have h := eqIntSS_any u v L L w hu hv
  rwa [decide_eq_true rfl] at h

/-- As FreshSS, from block 0 on, all below h. -/
def SSI (h : Nat) (w : World) (v : Value) (L : List (List Int)) : Prop := ∃ vs, w.ownsRow 0 37 1 v L.length vs ∧ Rows_ 0 w vs L ∧ Und h v ∧ ∀ (j : Nat) (u : Value), vs[j]? = some u → Und h u
theorem FreshSS.below {B h : Nat} {w : World} {v : Value} {L : List (List Int)} (f : FreshSS B w v L) (hb : w.heap.size ≤ h) : SSI h w v L := by
  obtain ⟨vs, h1, h2, _⟩ := f
  refine ⟨vs, ownsRow_more h1 (Nat.zero_le _), h2.more (Nat.zero_le _), fun b e => Nat.lt_of_lt_of_le (World.ownsRow.lt h1 b e).2 hb, fun j u hu => ?_⟩
  have hj : j < vs.length := (List.getElem?_eq_some_iff.1 hu).1
  exact (h2.row j u _ hu (List.getElem?_eq_getElem (by rw [← h2.len]; exact hj))).und.more hb
theorem SSI.stood {h : Nat} {w w' : World} {v : Value} {L : List (List Int)} (f : SSI h w v L) (k : Stood 0 h w w') : SSI h w' v L := by
  obtain ⟨vs, h1, h2, h3, h4⟩ := f
  refine ⟨vs, k.row h1 (fun b e => ⟨Nat.zero_le _, h3 b e⟩), ⟨h2.len, fun j u l hu hl => k.row (h2.row j u l hu hl) (fun b e => ⟨Nat.zero_le _, h4 j u hu b e⟩), h2.apart⟩, h3, h4⟩
theorem SSI.ext {h : Nat} {w w' : World} {v : Value} {L : List (List Int)} (f : SSI h w v L) (e : Ext w w') : SSI h w' v L := by
  obtain ⟨vs, h1, h2, h3, h4⟩ := f
  exact ⟨vs, e.ownsRow h1, h2.ext e, h3, h4⟩
theorem SSI.intss {h : Nat} {w : World} {v : Value} {L : List (List Int)} (f : SSI h w v L) : Intss w v L := by
  obtain ⟨vs, h1, h2, h3, h4⟩ := f
  exact (FreshSS.of h1 h2).intss
theorem FreshSS.ins {lo hi B : Nat} {w w' : World} {v : Value} {L : List (List Int)} (f : FreshSS B w v L) (k : Ins lo hi w w') (hb : hi ≤ B) : FreshSS B w' v L := by
  obtain ⟨vs, h1, h2, h3⟩ := f
  exact ⟨vs, k.row h1 (fun b e => .inr (Nat.le_trans hb (World.ownsRow.lt h1 b e).1)), ⟨h2.len, fun j u l hu hl => (h2.row j u l hu hl).ins_high k hb, h2.apart⟩, h3⟩

/-- The argument's box N, the model's answer v3 (below h3), the program's v5 (from B on). -/
def LiveS (w W : World) (N h3 B : Nat) (n : Int) (v v3 v5 : Value) (L M : List (List Int)) : Prop :=
  Ext w W ∧ AttrAt W N n v ∧ SSI h3 W v3 L ∧ FreshSS B W v5 M
theorem LiveS.ext {w W W' : World} {N h3 B : Nat} {n : Int} {v v3 v5 : Value} {L M : List (List Int)} (h : LiveS w W N h3 B n v v3 v5 L M) (e : Ext W W') : LiveS w W' N h3 B n v v3 v5 L M :=
  ⟨h.1.trans e, h.2.1.ext e, h.2.2.1.ext e, h.2.2.2.ext e⟩
theorem LiveS.ins {w W W' : World} {N h3 B lo hi : Nat} {n : Int} {v v3 v5 : Value} {L M : List (List Int)} (h : LiveS w W N h3 B n v v3 v5 L M) (k : Ins lo hi W W')
    (h0 : w.heap.size ≤ lo) (hN : N < lo) (hh : h3 ≤ lo) (hB : hi ≤ B) (hs : h3 ≤ W.heap.size) : LiveS w W' N h3 B n v v3 v5 L M := by
  obtain ⟨a, b, c, e⟩ := h
  exact ⟨k.ext a h0, b.ins k (.inl hN), c.stood (k.stood hs (.inl hh)), e.ins k hB⟩
theorem LiveS.mark {w W W' : World} {N h3 B : Nat} {n : Int} {v v3 v5 : Value} {L M M' : List (List Int)} (h : LiveS w W N h3 B n v v3 v5 L M) (k : Below B W W') (f' : FreshSS B W' v5 M')
    (h0 : w.heap.size ≤ B) (hN : N < B) (hh : h3 ≤ B) : LiveS w W' N h3 B n v v3 v5 L M' := by
  obtain ⟨a, b, c, e⟩ := h
  exact ⟨a.under k h0, ⟨(Below.cell k (p := ⟨N, 0, none⟩) hN).trans b.1, (Below.cell k (p := ⟨N, 1, none⟩) hN).trans b.2⟩, c.stood ⟨k.size, fun x _ h2 => Below.block k x (by omega)⟩, f'⟩

end Go.Proofs.Ythnoeknalpnadaa
