/- Texts of this proof, part v: words, plain facts, contracts. -/
import Derived.Test.YtcpmfcigciknlaaGreatNBookOfa
import Derived.Test.YtcpmfcigciknlaaGreatNBookOfu
import Derived.Test.YtcpmfcigciknlaaGreatNBookOfc
import Derived.Test.YtcpmfcigciknlaaGreatNBookOfe
import Derived.Test.YtcpmfcigciknlaaGreatNBookOfd
import Derived.Deep.RegionLaw
import Derived.Deep.AppendLies
import Derived.Test.YtcpmfcigciknlaaGreatNBookOfq
import Derived.Test.YtcpmfcigciknlaaGreatNBookOfo
set_option linter.unusedVariables false
set_option linter.unusedSimpArgs false

namespace Go.Proofs.YtcpmfcigciknlaaGreat
open Go.RowKit
set_option linter.unusedVariables false
def flatC {α : Type} (cells : α → List Value) (L : List α) : List Value := L.flatMap cells
theorem flatC_len {α : Type} {cells : α → List Value} {n : Nat} (h : ∀ x, (cells x).length = n) (L : List α) : (flatC cells L).length = L.length * n := by
  unfold flatC
  induction L with
  | nil => simp
  | cons x t ih => rw [List.flatMap_cons, List.length_append, ih, h, List.length_cons, Nat.add_mul]; omega
theorem flatC_at {α : Type} {cells : α → List Value} {n : Nat} (h : ∀ x, (cells x).length = n) {L : List α} {j i : Nat} (hj : j < L.length) (hi : i < n) : (flatC cells L)[j * n + i]? = (cells L[j])[i]? := by
  induction L generalizing j with
  | nil => simp at hj
  | cons x t ih =>
    unfold flatC
    rw [List.flatMap_cons]
    cases j with
    | zero =>
      rw [List.getElem?_append_left (by rw [h]; omega)]
      simp
    | succ j =>
      have h' : j < t.length := by simpa using hj
      have e1 : (j + 1) * n + i = (cells x).length + (j * n + i) := by rw [h, Nat.add_mul]; omega
      rw [e1, List.getElem?_append_right (by omega), Nat.add_sub_cancel_left]
      have := ih h'
      unfold flatC at this
      rw [this]
      simp

/-! ### Rows -/
def cellsR (x : RowD × Value) : List Value := [.int .i64 x.1.b, .int .i64 x.1.v, .int .i64 x.1.st, .int .i64 x.1.k, .int .i64 x.1.i, .int .i64 x.1.f, .int .i64 x.1.t, .int .i64 x.1.a, .int .i64 x.1.s, x.2]
theorem cellsR_len (x : RowD × Value) : (cellsR x).length = 10 := rfl
def FreshZ (B : Nat) (w : World) (v : Value) (P : List (RowD × Value)) : Prop := w.ownsRow B 83 10 v P.length (flatC cellsR P)
theorem FreshZ.nil (B : Nat) (w : World) : FreshZ B w (.slice none 0 0) [] := ⟨rfl, .inl ⟨rfl, rfl⟩⟩
theorem FreshZ.ext {B : Nat} {w w' : World} {v : Value} {P : List (RowD × Value)} (h : FreshZ B w v P) (e : Ext w w') : FreshZ B w' v P := e.ownsRow h
theorem FreshZ.rowz {B : Nat} {w : World} {v : Value} {P : List (RowD × Value)} (h : FreshZ B w v P) (hi : ∀ x ∈ P, Ints w x.2 x.1.l) : Rowz w v (P.map Prod.fst) := by
  rcases h.2 with ⟨rfl, hn⟩ | ⟨g, cap, cur, rfl, hb, hg, hnc, hcm, hcs, htake⟩
  · obtain rfl : P = [] := List.eq_nil_of_length_eq_zero hn
    exact Rowz.nil w
  · refine ⟨some ⟨g, 0, none⟩, cap, by simp, by simp; omega, ⟨by simp; omega, by omega, fun h => by cases h⟩, fun _ => ⟨g, 0, rfl, fun j hj => ?_⟩⟩
    have hj' : j < P.length := by simpa using hj
    have e : (P.map Prod.fst)[j] = P[j].1 := by simp
    rw [e]
    have hc : ∀ i, i < 10 → w.cell? ⟨g, j * 10 + i, none⟩ = (cellsR P[j])[i]? := fun i hi' => by
      rw [World.ownsRow.cellAt h (j * 10 + i) (by omega), flatC_at cellsR_len hj' hi']
    refine ⟨P[j].2, ?_, hi _ (List.getElem_mem hj')⟩
    rw [Nat.zero_add]
    exact ⟨hc 0 (by omega), hc 1 (by omega), hc 2 (by omega), hc 3 (by omega), hc 4 (by omega), hc 5 (by omega), hc 6 (by omega), hc 7 (by omega), hc 8 (by omega), hc 9 (by omega)⟩
theorem Tryz.infoRowP : (Tryz.prog.info? 83).map (fun i => (i.zero, i.size, i.bytes)) = some (some (.agg #[.int .i64 0, .int .i64 0, .int .i64 0, .int .i64 0, .int .i64 0, .int .i64 0, .int .i64 0, .int .i64 0, .int .i64 0, .slice none 0 0]), 10, 96) := by kernel_rfl
def cellsA (x : (Int × List Int) × Value) : List Value := [.int .i64 x.1.1, x.2]
def FreshA (B : Nat) (w : World) (v : Value) (P : List ((Int × List Int) × Value)) : Prop := w.ownsRow B 81 2 v P.length (flatC cellsA P)
theorem FreshA.nil (B : Nat) (w : World) : FreshA B w (.slice none 0 0) [] := ⟨rfl, .inl ⟨rfl, rfl⟩⟩
theorem FreshA.ext {B : Nat} {w w' : World} {v : Value} {P : List ((Int × List Int) × Value)} (h : FreshA B w v P) (e : Ext w w') : FreshA B w' v P := e.ownsRow h
end Go.Proofs.YtcpmfcigciknlaaGreat

namespace Go.Proofs.YtcpmfcigciknlaaGreat
open Go.RowKit
set_option linter.unusedVariables false
structure OwnTab (lo : Nat) (w : World) (g m : Nat) (vs : List Value) (P : List (List (RowD × Value))) : Prop where
  out : w.ownsRow 0 117 1 (.slice (some ⟨g, 0, none⟩) m m) m vs
  vl : vs.length = m
  pl : P.length = m
  row : ∀ (k : Nat) (v : Value) (L : List (RowD × Value)), vs[k]? = some v → P[k]? = some L → FreshZ lo w v L
  apart : ∀ (i j : Nat) (u v : Value), i ≠ j → vs[i]? = some u → vs[j]? = some v → u.ownBlock = none ∨ u.ownBlock ≠ v.ownBlock
  dep : ∀ L ∈ P, ∀ x ∈ L, Fresh lo w x.2 x.1.l
theorem OwnTab.ext {lo g m : Nat} {w w' : World} {vs : List Value} {P : List (List (RowD × Value))} (h : OwnTab lo w g m vs P) (e : Ext w w') : OwnTab lo w' g m vs P :=
  ⟨e.ownsRow h.out, h.vl, h.pl, fun k v L hv hL => (h.row k v L hv hL).ext e, h.apart, fun L hL x hx => (h.dep L hL x hx).ext e⟩
theorem OwnTab.at {lo g m k : Nat} {w : World} {vs : List Value} {P : List (List (RowD × Value))} (h : OwnTab lo w g m vs P) (hk : k < m) : ∃ v L, vs[k]? = some v ∧ P[k]? = some L ∧ w.cell? ⟨g, k, none⟩ = some v ∧ w.frozen? ⟨g, k, none⟩ = false ∧ FreshZ lo w v L := by
  have h1 : k < vs.length := by rw [h.vl]; exact hk
  have h2 : k < P.length := by rw [h.pl]; exact hk
  refine ⟨vs[k], P[k], List.getElem?_eq_getElem h1, List.getElem?_eq_getElem h2, ?_, h.out.frozenAt k, h.row _ _ _ (List.getElem?_eq_getElem h1) (List.getElem?_eq_getElem h2)⟩
  rw [h.out.cellAt k (by omega)]
  exact List.getElem?_eq_getElem h1
theorem FreshZ.form {B : Nat} {w : World} {v : Value} {P : List (RowD × Value)} (h : FreshZ B w v P) : ∃ ao cap, v = .slice ao P.length cap := by
  rcases h.2 with ⟨rfl, hn⟩ | ⟨g, cap, cur, rfl, _⟩
  · exact ⟨none, 0, by rw [hn]⟩
  · exact ⟨_, _, rfl⟩
theorem OwnTab.grow {lo g m k : Nat} {w w' : World} {vs : List Value} {P : List (List (RowD × Value))} {v v' : Value} {L : List (RowD × Value)} {x : RowD × Value} (h : OwnTab lo w g m vs P) (hk : vs[k]? = some v) (hP : P[k]? = some L)
    (t : w.grownBy w' v.ownBlock) (f : FreshZ lo w' v' (L ++ [x])) (loc : v'.ownBlock = v.ownBlock ∨ v'.ownBlock = some w.heap.size) (hx : Fresh lo w x.2 x.1.l) :
    OwnTab lo (w'.setCell ⟨g, k, none⟩ v') g m (vs.set k v') (P.set k (L ++ [x])) := by
  have hfz := h.row k v L hk hP
  have ho1 := World.ownsRow.kept h.out t (types_apart hfz h.out (by decide))
  have hst := ho1.stored k v'
  have hkv : k < vs.length := (List.getElem?_eq_some_iff.1 hk).1
  have hkp : k < P.length := (List.getElem?_eq_some_iff.1 hP).1
  have hz : ∀ (u : Value) (M : List (RowD × Value)), FreshZ lo w' u M → FreshZ lo (w'.setCell ⟨g, k, none⟩ v') u M := fun u M hu => World.ownsRow.kept hu hst.2 (types_apart ho1 hu (by decide))
  have hd : ∀ (u : Value) (l : List Int), Fresh lo w u l → Fresh lo (w'.setCell ⟨g, k, none⟩ v') u l := fun u l hu => by
    have h1 : Fresh lo w' u l := World.ownsRow.kept hu t (types_apart hfz hu (by decide))
    exact World.ownsRow.kept h1 hst.2 (types_apart ho1 h1 (by decide))
  have hnew : ∀ (i : Nat) (u : Value), i ≠ k → vs[i]? = some u → (u.ownBlock = none ∨ u.ownBlock ≠ v'.ownBlock) ∧ (v'.ownBlock = none ∨ v'.ownBlock ≠ u.ownBlock) := fun i u hi hu => by
    rcases loc with e | e
    · rw [e]
      exact ⟨h.apart i k u v hi hu hk, h.apart k i v u (fun e => hi e.symm) hk hu⟩
    · rw [e]
      have hiL : i < P.length := by have := (List.getElem?_eq_some_iff.1 hu).1; have := h.vl; have := h.pl; omega
      have hfi := h.row i u _ hu (List.getElem?_eq_getElem hiL)
      cases hb : u.ownBlock with
      | none => exact ⟨.inl rfl, .inr (by simp)⟩
      | some b =>
        have := (World.ownsRow.lt hfi b hb).2
        exact ⟨.inr (fun e' => by have := Option.some.inj e'; omega), .inr (fun e' => by have := Option.some.inj e'; omega)⟩
  refine ⟨hst.1, by rw [List.length_set]; exact h.vl, by rw [List.length_set]; exact h.pl, fun i u M hu hM => ?_, fun i j u z hij hu hz' => ?_, fun M hM y hy => ?_⟩
  · by_cases e : i = k
    · subst e
      rw [List.getElem?_set_self hkv] at hu
      rw [List.getElem?_set_self hkp] at hM
      cases hu; cases hM
      exact hz _ _ f
    · rw [List.getElem?_set_ne (fun h => e h.symm)] at hu hM
      exact hz _ _ (World.ownsRow.kept (h.row i u M hu hM) t (h.apart i k u v e hu hk))
  · by_cases e : i = k
    · subst e
      rw [List.getElem?_set_self hkv] at hu
      rw [List.getElem?_set_ne (fun h => hij h)] at hz'
      cases hu
      exact (hnew j z (fun e => hij e.symm) hz').2
    · rw [List.getElem?_set_ne (fun h => e h.symm)] at hu
      by_cases e' : j = k
      · subst e'
        rw [List.getElem?_set_self hkv] at hz'
        cases hz'
        exact (hnew i u e hu).1
      · rw [List.getElem?_set_ne (fun h => e' h.symm)] at hz'
        exact h.apart i j u z hij hu hz'
  · rcases List.mem_or_eq_of_mem_set hM with hM | rfl
    · exact hd _ _ (h.dep M hM y hy)
    · rcases List.mem_append.1 hy with hy | hy
      · exact hd _ _ (h.dep L (List.mem_of_getElem? hP) y hy)
      · rw [List.mem_singleton] at hy
        rw [hy]
        exact hd _ _ hx
def rowsP (P : List (List (RowD × Value))) : List (List RowD) := P.map fun L => L.map Prod.fst
theorem OwnTab.rows {lo g m : Nat} {w : World} {vs : List Value} {P : List (List (RowD × Value))} (h : OwnTab lo w g m vs P) : Rowzz w (.slice (some ⟨g, 0, none⟩) m m) (rowsP P) := by
  have hl : (rowsP P).length = m := by unfold rowsP; rw [List.length_map]; exact h.pl
  rcases id h.out.2 with ⟨hv, _⟩ | ⟨g', cap, cur, hv, hb, hg, hnc, hcm, hcs, htake⟩
  · cases hv
  simp only [Value.slice.injEq, Option.some.injEq, Addr.mk.injEq, and_true, true_and] at hv
  obtain ⟨rfl, rfl⟩ := hv
  refine ⟨some ⟨g, 0, none⟩, m, by rw [hl], by rw [hl]; exact hcm, ⟨by rw [hl]; omega, hcm, fun h => by cases h⟩, fun hp => ⟨g, 0, rfl, fun j hj => ?_⟩⟩
  rw [hl] at hj
  obtain ⟨v, L, h1, h2, h3, _, h5⟩ := h.at hj
  have e : (rowsP P)[j]'(by rw [hl]; exact hj) = L.map Prod.fst := by
    have h6 := (List.getElem?_eq_some_iff.1 h2).2
    unfold rowsP
    rw [List.getElem_map, h6]
  refine ⟨v, by rw [Nat.zero_add]; exact h3, ?_⟩
  rw [e]
  exact h5.rowz (fun x hx => (h.dep L (List.mem_of_getElem? h2) x hx).ints)
theorem rowsP_grow {P : List (List (RowD × Value))} {k : Nat} {L : List (RowD × Value)} {x : RowD × Value} (hP : P[k]? = some L) : rowsP (P.set k (L ++ [x])) = (rowsP P).set k (((rowsP P)[k]?.getD []) ++ [x.1]) := by
  unfold rowsP
  rw [List.map_set, List.getElem?_map, hP]
  simp
def copL (T : List (List RowD)) (k j i : Nat) : List RowD := if i < k then T[i]?.getD [] else if i = k then (T[i]?.getD []).take j else []
def copT (T : List (List RowD)) (m k j : Nat) : List (List RowD) := (List.range m).map (copL T k j)
theorem copT_at {T : List (List RowD)} {m k j i : Nat} (h : i < m) : (copT T m k j)[i]? = some (copL T k j i) := by simp [copT, h]
theorem copT_len (T : List (List RowD)) (m k j : Nat) : (copT T m k j).length = m := by simp [copT]
theorem copT_zero (T : List (List RowD)) (m : Nat) : copT T m 0 0 = List.replicate m [] := by
  refine List.ext_getElem? fun i => ?_
  rw [List.getElem?_replicate]
  by_cases h : i < m
  · rw [copT_at h, if_pos h]
    unfold copL
    simp
  · rw [List.getElem?_eq_none (by rw [copT_len]; omega), if_neg h]
theorem copT_next {T : List (List RowD)} {m k : Nat} (hk : k < T.length) : copT T m k T[k].length = copT T m (k + 1) 0 := by
  unfold copT
  refine List.map_congr_left fun i _ => ?_
  unfold copL
  by_cases h1 : i < k
  · rw [if_pos h1, if_pos (by omega)]
  · rw [if_neg h1]
    by_cases h2 : i = k
    · subst h2
      rw [if_pos rfl, if_pos (by omega), List.getElem?_eq_getElem hk, Option.getD_some, List.take_length]
    · rw [if_neg h2, if_neg (by omega)]
      simp
theorem copT_step {T : List (List RowD)} {m k j : Nat} (hm : k < m) (hk : k < T.length) (hj : j < T[k].length) : (copT T m k j).set k (((copT T m k j)[k]?.getD []) ++ [T[k][j]]) = copT T m k (j + 1) := by
  refine List.ext_getElem? fun i => ?_
  rw [List.getElem?_set, copT_len, copT_at hm, Option.getD_some]
  by_cases hi : i < m
  · rw [copT_at hi, copT_at hi]
    by_cases e : k = i
    · subst e
      rw [if_pos rfl, if_pos hm]
      congr 1
      unfold copL
      rw [if_neg (by omega), if_pos rfl, if_neg (by omega), if_pos rfl, List.getElem?_eq_getElem hk, Option.getD_some, List.take_succ_eq_append_getElem hj]
    · rw [if_neg e]
      congr 1
      unfold copL
      by_cases h1 : i < k
      · rw [if_pos h1, if_pos h1]
      · rw [if_neg h1, if_neg h1, if_neg (fun h => e h.symm), if_neg (fun h => e h.symm)]
  · rw [if_neg (by omega), List.getElem?_eq_none (by rw [copT_len]; omega), List.getElem?_eq_none (by rw [copT_len]; omega)]
theorem copT_all (T : List (List RowD)) : copT T T.length T.length 0 = T := by
  refine List.ext_getElem? fun i => ?_
  by_cases hi : i < T.length
  · rw [copT_at hi, List.getElem?_eq_getElem hi]
    unfold copL
    rw [if_pos hi, List.getElem?_eq_getElem hi]
    rfl
  · rw [List.getElem?_eq_none (by rw [copT_len]; omega), List.getElem?_eq_none (by omega)]
theorem step_pushRow {ops : Array Oper} {o : Oper} {a : Act} {w : World} {K : Act → World → Prop} {Q : Exit → Act → World → Prop} {E : Prop} (hgd : o.guard = none) (s x : Operand)
    (ho : o.op = .call { callee := .builtin .append, args := #[s, x], argTypes := #[117, 117] })
    (B : Nat) (v : Value) (L : List (RowD × Value)) (r : RowD) (ya : Option Addr) (yn yc : Nat) (hs : a.eval s = v) (hf : FreshZ B w v L) (gb : Nat) (c : Nat) (hx : a.eval x = .slice (some ⟨gb, 0, none⟩) 1 c)
    (hr : RowIn w gb 0 r (.slice ya yn yc)) (m : Nat) (hm : L.length = m) (hl : m ≤ 1048576) (hB : B ≤ w.heap.size)
    (h : ∀ ao cap w', FreshZ B w' (.slice ao (m + 1) cap) (L ++ [(r, .slice ya yn yc)]) → w.grownBy w' v.ownBlock → ((Value.slice ao (m + 1) cap).ownBlock = v.ownBlock ∨ (Value.slice ao (m + 1) cap).ownBlock = some w.heap.size) → K (a.put o.dst (.slice ao (m + 1) cap)) w') : if Region.wanted o (yielded ops a.tmps) = true then Oper.wp Tryz.prog o a w K Q else E := by
  obtain ⟨i0, hi, hz0, hz1, hz2⟩ := info_parts Tryz.infoRowP
  obtain ⟨h0, h1, h2, h3, h4, h5, h6, h7, h8, h9⟩ := hr
  have hw : Region.wanted o (yielded ops a.tmps) = true := by simp [Region.wanted, hgd]
  rw [if_pos hw]
  obtain ⟨v', w', hrun, hown, hgr, _, hloc⟩ := run_append_own_at (P := Tryz.prog) w B 117 o.type 83 i0 (.agg #[.int .i64 0, .int .i64 0, .int .i64 0, .int .i64 0, .int .i64 0, .int .i64 0, .int .i64 0, .int .i64 0, .int .i64 0, .slice none 0 0]) 10 96 Tryz.underlying117 hi hz0 hz1 hz2 rfl (by decide) v L.length _ hf ⟨gb, 0, none⟩ 1 c (cellsR (r, .slice ya yn yc)) rfl (by
    intro j u hj
    match j, hj with
    | 0, hj => simp [cellsR] at hj; subst hj; simpa [Addr.add] using h0
    | 1, hj => simp [cellsR] at hj; subst hj; simpa [Addr.add] using h1
    | 2, hj => simp [cellsR] at hj; subst hj; simpa [Addr.add] using h2
    | 3, hj => simp [cellsR] at hj; subst hj; simpa [Addr.add] using h3
    | 4, hj => simp [cellsR] at hj; subst hj; simpa [Addr.add] using h4
    | 5, hj => simp [cellsR] at hj; subst hj; simpa [Addr.add] using h5
    | 6, hj => simp [cellsR] at hj; subst hj; simpa [Addr.add] using h6
    | 7, hj => simp [cellsR] at hj; subst hj; simpa [Addr.add] using h7
    | 8, hj => simp [cellsR] at hj; subst hj; simpa [Addr.add] using h8
    | 9, hj => simp [cellsR] at hj; subst hj; simpa [Addr.add] using h9) (by
    intro u hu
    simp [cellsR] at hu
    rcases hu with rfl | rfl | rfl | rfl | rfl | rfl | rfl | rfl | rfl | rfl <;> rfl) (by unfold maxLen; omega) (by omega) hB
  have hf' : FreshZ B w' v' (L ++ [(r, .slice ya yn yc)]) := by
    unfold FreshZ
    have e : flatC cellsR (L ++ [(r, .slice ya yn yc)]) = flatC cellsR L ++ cellsR (r, .slice ya yn yc) := by simp [flatC]
    rw [e, List.length_append]
    exact hown
  obtain ⟨ao, cap, hv'⟩ := hf'.form
  have e : (L ++ [(r, Value.slice ya yn yc)]).length = m + 1 := by simp [hm]
  rw [e] at hv'
  rw [hv'] at hf' hloc hrun
  have hK := h ao cap w' hf' hgr hloc
  unfold Oper.wp execOp
  simp only [ho, resolve, invoke, builtin, Sem.run_bind, Sem.run_pure, Result.andThen_ok, List.map_toArray, List.map_cons, List.map_nil, hs, hx, hrun]
  exact hK
end Go.Proofs.YtcpmfcigciknlaaGreat

namespace Go.Proofs.YtcpmfcigciknlaaGreat
open Go.RowKit
set_option linter.unusedVariables false
theorem makeT_3 (W : World) : (Instr.makeSlice 30 (.int .i64 3) (.int .i64 3)).run Tryz.prog W = .ok (.slice (some ⟨W.heap.size, 0, none⟩) 3 3) (W.alloc (.cells #[.slice none 0 0, .slice none 0 0, .slice none 0 0] 117)) := by kernel_rfl
theorem makeT_5 (W : World) : (Instr.makeSlice 30 (.int .i64 5) (.int .i64 5)).run Tryz.prog W = .ok (.slice (some ⟨W.heap.size, 0, none⟩) 5 5) (W.alloc (.cells #[.slice none 0 0, .slice none 0 0, .slice none 0 0, .slice none 0 0, .slice none 0 0] 117)) := by kernel_rfl
theorem makeT_m (m : Nat) (h : m = 3 ∨ m = 5) (W : World) : (Instr.makeSlice 30 (.int .i64 (m : Int)) (.int .i64 (m : Int))).run Tryz.prog W = .ok (.slice (some ⟨W.heap.size, 0, none⟩) m m) (W.alloc (.cells (Array.replicate m (.slice none 0 0)) 117)) := by
  rcases h with rfl | rfl
  · exact makeT_3 W
  · exact makeT_5 W
theorem FreshI.nil (lo hi : Nat) (w : World) : FreshI lo hi w (.slice none 0 0) [] :=
  ⟨[], [], World.ownsRow_nil _ _ _ _, Cells.nil _, Rows_.nil _ _, fun _ _ h => by simp at h, fun b h => by simp [Value.ownBlock] at h, fun _ _ h => by simp at h⟩
theorem FreshT.nil (lo : Nat) (w : World) : FreshT lo lo w (.slice none 0 0) [] :=
  ⟨[], fun _ => lo, World.ownsRow_nil _ _ _ _, fun b h => by simp [Value.ownBlock] at h, fun _ _ => Nat.le_refl _, Nat.le_refl _, Nat.le_refl _, fun j h _ => by simp at h⟩
theorem FreshT.set {lo hi : Nat} {w : World} {v : Value} {T : List (List RowD)} (h : FreshT lo hi w v T) (b o : Nat) (x : Value) (hb : b < lo) : FreshT lo hi (w.setCell ⟨b, o, none⟩ x) v T :=
  h.kept ⟨by simp, fun q q1 _ => Below.heap_setCell _ _ _ q (by dsimp only; omega)⟩
end Go.Proofs.YtcpmfcigciknlaaGreat

namespace Go.Proofs.YtcpmfcigciknlaaGreat
open Go.RowKit
set_option linter.unusedVariables false
theorem step_push {ops : Array Oper} {o : Oper} {a : Act} {w : World} {K : Act → World → Prop} {Q : Exit → Act → World → Prop} {E : Prop} (hgd : o.guard = none) (s x : Operand)
    (ho : o.op = .call { callee := .builtin .append, args := #[s, x], argTypes := #[26, 26] })
    (B : Nat) (v : Value) (l : List Int) (n : Int) (hs : a.eval s = v) (hf : Fresh B w v l) (ad : Addr) (c : Nat) (hx : a.eval x = .slice (some ad) 1 c)
    (hc : w.cell? ad = some (.int .i64 n)) (m : Nat) (hm : l.length = m) (hl : m ≤ 1099511627776) (hB : B ≤ w.heap.size)
    (h : ∀ ao cap w', Fresh B w' (.slice ao (m + 1) cap) (l ++ [n]) → w.grownBy w' v.ownBlock → K (a.put o.dst (.slice ao (m + 1) cap)) w') : if Region.wanted o (yielded ops a.tmps) = true then Oper.wp Tryz.prog o a w K Q else E := by
  obtain ⟨i0, hi, hz0, hz1, hz2⟩ := info_parts Tryz.infoInt
  have hw : Region.wanted o (yielded ops a.tmps) = true := by simp [Region.wanted, hgd]
  rw [if_pos hw]
  refine wp_append_own w s x 26 ho B 3 i0 (.int .i64 0) 1 8 Tryz.underlying26 hi hz0 hz1 hz2 rfl (by decide) v l.length _ hs hf ad 1 c [.int .i64 n] hx rfl ?_ ?_ ?_ ?_ hB ?_
  · intro j u hj
    match j, hj with
    | 0, hj => simp at hj; subst hj; simpa [Addr.add] using hc
  · intro u hu; simp at hu; subst hu; rfl
  · unfold maxLen; omega
  · omega
  · intro v' w' ho' hg _
    have hf' : Fresh B w' v' (l ++ [n]) := by
      unfold Fresh
      rw [List.map_append, List.length_append]; exact ho'
    obtain ⟨ao, cap, rfl⟩ := hf'.form
    have e : (l ++ [n]).length = m + 1 := by simp [hm]
    rw [e] at hf' ⊢
    exact h ao cap w' hf' hg
theorem cell_other {W : World} {g o : Nat} {a : Addr} {z u : Value} (hne : a.block ≠ g) (h : W.cell? a = some u) : (W.setCell ⟨g, o, none⟩ z).cell? a = some u := by
  have hh := Below.heap_setCell W ⟨g, o, none⟩ z a.block hne
  have e : (W.setCell ⟨g, o, none⟩ z).cell? a = W.cell? a := by unfold World.cell?; rw [hh]
  rw [e]; exact h
theorem AttrAt.other {w : World} {b g o : Nat} {s : Int} {u z : Value} (h : AttrAt w b s u) (hne : b ≠ g) : AttrAt (w.setCell ⟨g, o, none⟩ z) b s u := ⟨cell_other hne h.1, cell_other hne h.2⟩
theorem OpenAt.other {w : World} {b g o : Nat} {s : Int} {u z : Value} (h : OpenAt w b s u) (hne : b ≠ g) : OpenAt (w.setCell ⟨g, o, none⟩ z) b s u :=
  ⟨h.1.other hne, by rw [World.frozen?_setCell]; exact h.2.1, by rw [World.frozen?_setCell]; exact h.2.2⟩
end Go.Proofs.YtcpmfcigciknlaaGreat

namespace Go.Proofs.YtcpmfcigciknlaaGreat
open Go.RowKit
set_option linter.unusedVariables false
theorem ownTab_new (m : Nat) (hm : m ≤ 5) (w : World) (lo : Nat) : OwnTab lo (w.alloc (.cells (Array.replicate m (.slice none 0 0)) 117)) w.heap.size m (List.replicate m (.slice none 0 0)) (List.replicate m []) := by
  have h := World.ownsRow_lit (e := 117) (size := 1) (base := 0) w (Array.replicate m (.slice none 0 0)) m (Nat.zero_le _) (by unfold maxLen; omega) (by simp)
  refine ⟨by simpa using h, by simp, by simp, fun k v L hv hL => ?_, fun i j u v _ hu _ => ?_, fun L hL x hx => ?_⟩
  · rw [List.getElem?_replicate] at hv hL
    split at hv
    · rw [if_pos (by assumption)] at hL
      cases hv; cases hL
      exact FreshZ.nil _ _
    · cases hv
  · rw [List.getElem?_replicate] at hu
    split at hu
    · cases hu; exact .inl rfl
    · cases hu
  · rw [(List.mem_replicate.1 hL).2] at hx
    cases hx
theorem OwnTab.set {lo g m b o : Nat} {w : World} {vs : List Value} {P : List (List (RowD × Value))} (h : OwnTab lo w g m vs P) (x : Value) (hg : b ≠ g) (hb : b < lo) : OwnTab lo (w.setCell ⟨b, o, none⟩ x) g m vs P :=
  ⟨World.ownsRow.kept h.out (grownBy_set w b o x) (.inr (fun e => hg (Option.some.inj e).symm)), h.vl, h.pl, fun k v L hv hL => World.ownsRow.kept (h.row k v L hv hL) (grownBy_set w b o x) (by
    cases hv' : v.ownBlock with
    | none => exact .inl rfl
    | some q => exact .inr (fun e => by have := (World.ownsRow.lt (h.row k v L hv hL) q hv').1; have := Option.some.inj e; omega)), h.apart, fun L hL y hy => (h.dep L hL y hy).set _ _ _ hb⟩
theorem OwnTab.more {lo lo' g m : Nat} {w : World} {vs : List Value} {P : List (List (RowD × Value))} (h : OwnTab lo w g m vs P) (k : lo' ≤ lo) : OwnTab lo' w g m vs P :=
  ⟨h.out, h.vl, h.pl, fun i v L hv hL => ownsRow_more (h.row i v L hv hL) k, h.apart, fun L hL y hy => (h.dep L hL y hy).more k⟩
def NewOwnT (n : Int) (T : List (List RowD)) (w : World) (e : Ending) (w' : World) : Prop :=
  ∃ g vs P, e = .returned (.agg #[.int .i64 n, .slice (some ⟨g, 0, none⟩) T.length T.length]) ∧ OwnTab (g + 1) w' g T.length vs P ∧ rowsP P = T ∧ w.heap.size ≤ g ∧ Ext w w'
theorem l4New_own (m : Nat) (hm : m = 3 ∨ m = 5) (w : World) :
    Calls Tryz.prog 135 #[.int .i64 m] w (fun e w' => e = .returned (.agg #[.int .i64 m, .slice (some ⟨w.heap.size + 1, 0, none⟩) m m]) ∧ w' = ((w.alloc (.cells #[.int .i64 m, .slice (some ⟨w.heap.size + 1, 0, none⟩) m m] 32)).alloc (.cells (Array.replicate m (.slice none 0 0)) 117))) := by
  have hmk := makeT_m m hm
  clear hm
  go_enter Tryz.func135, Tryz.ntmps135
  go_wp2
  exact bodyPost_ret (v := .agg #[.int .i64 m, .slice (some ⟨w.heap.size + 1, 0, none⟩) m m]) (by simp [results, Tryz.results135, go_sem]) rfl ⟨rfl, rfl⟩
theorem rowQ_in {T : List (List RowD)} {p j : Nat} {Q : List RowD} {hp : p < T.length} (h : Q = T[p]) (hj : j < Q.length) : ∃ h' : j < T[p].length, T[p][j] = Q[j] := by
  subst h
  exact ⟨hj, rfl⟩
theorem farZ {lo b o : Nat} {w W W' : World} {v x : Value} {L : List (RowD × Value)} (f : FreshZ lo w v L) (e : Ext w W) (t : W.grownBy W' v.ownBlock) (hc : w.cell? ⟨b, o, none⟩ = some x) (hb : b < lo) : W'.cell? ⟨b, o, none⟩ = some x :=
  World.grownBy.cell t (e.cell hc) (fun e' => by
    have := (World.ownsRow.lt f b e'.symm).1
    omega)
theorem farZ_free {lo b o : Nat} {w W W' : World} {v x : Value} {L : List (RowD × Value)} (f : FreshZ lo w v L) (e : Ext w W) (t : W.grownBy W' v.ownBlock) (hc : w.cell? ⟨b, o, none⟩ = some x) (hz : w.frozen? ⟨b, o, none⟩ = false) (hb : b < lo) : W'.frozen? ⟨b, o, none⟩ = false := by
  have hlt : b < w.heap.size := World.block_lt_of_cell? w _ hc
  have h := World.grownBy.frozen_far t ⟨b, o, none⟩ (Nat.lt_of_lt_of_le hlt e.size) (fun e' => by
    have := (World.ownsRow.lt f b e'.symm).1
    omega)
  rw [h]
  exact e.frozen hlt hz
theorem rowIn_alloc (w : World) (T : TypeId) (r : RowD) (u : Value) : RowIn (w.alloc (.cells #[.int .i64 r.b, .int .i64 r.v, .int .i64 r.st, .int .i64 r.k, .int .i64 r.i, .int .i64 r.f, .int .i64 r.t, .int .i64 r.a, .int .i64 r.s, u] T)) w.heap.size 0 r u := by
  refine ⟨?_, ?_, ?_, ?_, ?_, ?_, ?_, ?_, ?_, ?_⟩ <;> go_simp
structure OwnS (w wr : World) (g N m : Nat) (vs : List Value) (P : List (List (RowD × Value))) : Prop where
  tab : OwnTab (N + 1) wr g m vs P
  box : AttrAt wr N m (.slice (some ⟨g, 0, none⟩) m m)
  res : OpenAt wr (w.heap.size + 1) 0 (.slice none 0 0)
  ext : Ext w wr
  lo : N + 1 ≤ wr.heap.size
theorem OwnS.on {w wr w' : World} {g N m : Nat} {vs : List Value} {P : List (List (RowD × Value))} (h : OwnS w wr g N m vs P) (e : Ext wr w') : OwnS w w' g N m vs P := ⟨h.tab.ext e, h.box.ext e, h.res.ext e, h.ext.trans e, Nat.le_trans h.lo e.size⟩
theorem OwnS.grow {w wr W W' : World} {g N m k : Nat} {vs : List Value} {P : List (List (RowD × Value))} {v v' : Value} {L : List (RowD × Value)} {x : RowD × Value} (h : OwnS w wr g N m vs P) (hk : vs[k]? = some v) (hP : P[k]? = some L) (e : Ext wr W) (hgN : g < N) (hwg : w.heap.size + 1 < g)
    (t : W.grownBy W' v.ownBlock) (f : FreshZ (N + 1) W' v' (L ++ [x])) (loc : v'.ownBlock = v.ownBlock ∨ v'.ownBlock = some W.heap.size) (hx : Fresh (N + 1) W x.2 x.1.l) :
    OwnS w (W'.setCell ⟨g, k, none⟩ v') g N m (vs.set k v') (P.set k (L ++ [x])) := by
  have hz := h.tab.row k v L hk hP
  have hs := t.size
  have he := e.size
  refine ⟨(h.tab.ext e).grow hk hP t f loc hx, ?_, ?_, ?_, ?_⟩
  · have h0 : AttrAt W' N m (.slice (some ⟨g, 0, none⟩) m m) := ⟨farZ hz e t h.box.1 (by omega), farZ hz e t h.box.2 (by omega)⟩
    exact h0.other (by omega)
  · have h0 : OpenAt W' (w.heap.size + 1) 0 (.slice none 0 0) := ⟨⟨farZ hz e t h.res.1.1 (by omega), farZ hz e t h.res.1.2 (by omega)⟩, farZ_free hz e t h.res.1.1 h.res.2.1 (by omega), farZ_free hz e t h.res.1.2 h.res.2.2 (by omega)⟩
    exact h0.other (by omega)
  · have h0 : Ext w W' := Below.grown (h.ext.trans e) t (h.ext.trans e).size (fun b hb => by
      have := (World.ownsRow.lt hz b hb).1
      have := h.ext.size
      omega)
    exact h0.setc (by dsimp only; omega)
  · simp only [World.size_setCell]
    have := h.lo
    omega
set_option maxHeartbeats 8000000 in
set_option maxRecDepth 100000 in
theorem l4Own_any (n : Int) (u : Value) (T : List (List RowD)) (w : World) (hu : Rowzz w u T) (hg : goodTab n T = true) :
    Calls Tryz.prog 93 #[.agg #[.int .i64 n, u]] w (NewOwnT n T w) := by
  obtain ⟨hgrp, hlen, hrows⟩ := goodTab_of hg
  subst hlen
  have hm35 : T.length = 3 ∨ T.length = 5 := by rcases isGrp_of hgrp with h | h <;> omega
  have HM := Lib.hid hm35
  have hm5 : T.length ≤ 5 := by omega
  obtain ⟨au, cu, rfl, hlu, _, hcu⟩ := hu
  unfold maxLen at hlu
  have HCU := Lib.hid hcu
  have HR := Lib.hid hrows
  have HG := Lib.hid hg
  obtain ⟨wb, hwb⟩ : ∃ wb, wb = (w.alloc (.cells #[.int .i64 T.length, .slice au T.length cu] 32)).alloc (.cells #[.int .i64 0, .slice none 0 0] 32) := ⟨_, rfl⟩
  have sb : wb.heap.size = w.heap.size + 2 := by rw [hwb]; simp
  have xb : Ext w wb := by rw [hwb]; exact Ext.alloc2 _ _ _
  have hres : OpenAt wb (w.heap.size + 1) 0 (.slice none 0 0) := by rw [hwb]; refine ⟨⟨?_, ?_⟩, ?_, ?_⟩ <;> go_simp
  have c1 : wb.cell? ⟨w.heap.size, 1, none⟩ = some (.slice au T.length cu) := by rw [hwb]; go_simp
  have HWB := Lib.hid hwb
  clear hcu hrows hg hgrp hm35 hwb
  go_enter Tryz.func93, Tryz.ntmps93
  go_wp2_with fail
  rw [← HWB.out]
  refine (l4New_own T.length HM.out _).mono ?_
  rintro e w1 ⟨rfl, hw1⟩
  rw [sb] at hw1 ⊢
  have x1 : Ext wb w1 := by rw [hw1]; exact Ext.alloc2 _ _ _
  have sz1 : w1.heap.size = w.heap.size + 4 := by rw [hw1]; simp [sb]
  have ht : OwnTab (w.heap.size + 5) w1 (w.heap.size + 3) T.length (List.replicate T.length (.slice none 0 0)) (List.replicate T.length []) := by
    have h := ownTab_new T.length hm5 (wb.alloc (.cells #[.int .i64 T.length, .slice (some ⟨w.heap.size + 2 + 1, 0, none⟩) T.length T.length] 32)) (w.heap.size + 5)
    rw [World.size_alloc, sb] at h
    rw [hw1]
    exact h
  have x2 := Ext.alloc1 w1 (.cells #[.int .i64 T.length, .slice (some ⟨w.heap.size + 3, 0, none⟩) T.length T.length] 32)
  have hs : OwnS w (w1.alloc (.cells #[.int .i64 T.length, .slice (some ⟨w.heap.size + 3, 0, none⟩) T.length T.length] 32)) (w.heap.size + 3) (w.heap.size + 4) T.length (List.replicate T.length (.slice none 0 0)) (List.replicate T.length []) := by
    refine ⟨ht.ext x2, ?_, (hres.ext x1).ext x2, (xb.trans x1).trans x2, by rw [World.size_alloc, sz1]; exact Nat.le_refl _⟩
    have h := attrAt_new w1 32 T.length (.slice (some ⟨w.heap.size + 3, 0, none⟩) T.length T.length)
    rw [sz1] at h
    exact h
  have g1 := x1.cell c1
  have HS := Lib.hid hs
  have SZ := Lib.hid sz1
  clear hw1 ht hs x1 xb hres c1 sb
  go_wp2
  clear g1
  go_loopw [14] (fun i wr => ∃ (k : Nat) (vs : List Value) (P : List (List (RowD × Value))), k ≤ T.length ∧ i = .int .i64 k ∧ Hid (OwnS w wr (w.heap.size + 3) (w.heap.size + 4) T.length vs P) ∧ Hid (rowsP P = copT T T.length k 0)) (fun i _ => T.length - (intOf i).toNat)
  case atStart =>
    have h := HS.out
    exact ⟨0, _, _, Nat.zero_le _, rfl, Lib.hid h, Lib.hid (by rw [copT_zero]; simp [rowsP])⟩
  case round =>
    clear HS
    obtain ⟨k, vs, P, hk, rfl, HS, HP⟩ := hrel
    by_cases hlt : k < T.length
    · obtain ⟨bu, ou, rfl, du⟩ := HCU.out (by omega)
      obtain ⟨x, hx1, ix⟩ := du k hlt
      have gu := HS.out.ext.cell hx1
      obtain ⟨R, hR⟩ : ∃ R, R = T[k] := ⟨_, rfl⟩
      rw [← hR] at ix
      have hgr : ∀ r ∈ R, goodRow T.length r = true := by rw [hR]; exact (HR.out _ (List.getElem_mem hlt)).2
      have hl6 : R.length ≤ 6 := by rw [hR]; exact (HR.out _ (List.getElem_mem hlt)).1
      obtain ⟨ax, cx, rfl, hlx, _, hcx⟩ := ix
      unfold maxLen at hlx
      have HRR := Lib.hid hR
      have HCX := Lib.hid hcx
      have HLT := Lib.hid hlt
      have HP0 : Hid (rowsP P = copT T T.length k 0) := HP
      clear du hx1 hR hgr hcx
      go_wp2
      clear gu
      go_loopw [21] (fun i wr => ∃ (j : Nat) (vs : List Value) (P : List (List (RowD × Value))), j ≤ R.length ∧ i = .int .i64 j ∧ Hid (OwnS w wr (w.heap.size + 3) (w.heap.size + 4) T.length vs P) ∧ Hid (rowsP P = copT T T.length k j)) (fun i _ => R.length - (intOf i).toNat)
      case atStart => exact ⟨0, vs, P, Nat.zero_le _, rfl, HS, HP0⟩
      case round =>
        clear HS HP HP0
        obtain ⟨j, vs, P, hj, rfl, HS, HP⟩ := hrel
        by_cases hjt : j < R.length
        · obtain ⟨bx, ox, rfl, dx⟩ := HCX.out (by omega)
          obtain ⟨y, hy1, iy⟩ := dx j hjt
          obtain ⟨d, hd⟩ : ∃ d, d = R[j] := ⟨_, rfl⟩
          rw [← hd] at hy1 iy
          obtain ⟨g0, g1, g2, g3, g4, g5, g6, g7, g8, g9⟩ := hy1.ext HS.out.ext
          have hi7 := iy.ext (HS.out.ext.trans (Ext.alloc1 wr (.cells #[.int .i64 d.b, .int .i64 d.v, .int .i64 d.st, .int .i64 d.k, .int .i64 d.i, .int .i64 d.f, .int .i64 d.t, .int .i64 d.a, .int .i64 d.s, y] 83)))
          obtain ⟨ay, cy, rfl, _⟩ := id iy
          have hdl : d.l.length ≤ 1048576 := by
            obtain ⟨hj', ej⟩ := rowQ_in HRR.out hjt
            rw [← hd] at ej
            have h := (goodTab_row HG.out HLT.out hj').2.2
            rw [ej] at h
            omega
          obtain ⟨v, L, hv, hL, q0, q1, fz⟩ := HS.out.tab.at HLT.out
          obtain ⟨av, cv, rfl⟩ := fz.form
          have hLl : L.length = j := by
            have h := congrArg (fun Z => (Z[k]?.getD []).length) HP.out
            unfold rowsP at h
            rw [List.getElem?_map, hL, copT_at HLT.out] at h
            simp only [Option.map_some, Option.getD_some, List.length_map] at h
            rw [h]
            unfold copL
            rw [if_neg (by omega), if_pos rfl, List.getElem?_eq_getElem HLT.out, Option.getD_some, ← HRR.out, List.length_take]
            omega
          obtain ⟨w7, hw7⟩ : ∃ w7, w7 = wr.alloc (.cells #[.int .i64 d.b, .int .i64 d.v, .int .i64 d.st, .int .i64 d.k, .int .i64 d.i, .int .i64 d.f, .int .i64 d.t, .int .i64 d.a, .int .i64 d.s, .slice ay d.l.length cy] 83) := ⟨_, rfl⟩
          have x7 : Ext wr w7 := by rw [hw7]; exact Ext.alloc1 _ _
          obtain ⟨p0, p1, p2, p3, p4, p5, p6, p7, p8, p9⟩ : RowIn w7 wr.heap.size 0 d (.slice ay d.l.length cy) := by rw [hw7]; exact rowIn_alloc wr _ d _
          rw [← hw7] at hi7
          have S7 := Lib.hid (HS.out.on x7)
          have F7 := Lib.hid (FreshZ.ext fz x7)
          have a0 := S7.out.box.1
          have a1 := S7.out.box.2
          have e0 := x7.cell q0
          have HW7 := Lib.hid hw7
          have HI7 := Lib.hid hi7
          have HDL := Lib.hid hdl
          have HJT := Lib.hid hjt
          have HD := Lib.hid hd
          have HV := Lib.hid hv
          have HL := Lib.hid hL
          have HLL := Lib.hid hLl
          rw [hLl] at e0 F7 HV fz
          have lo7 : w.heap.size + 5 ≤ w7.heap.size := S7.out.lo
          clear dx hy1 iy hi7 hd hv hL hLl x7 hw7 HS fz q0 q1 hdl
          go_wp2
          rw [← HW7.out]
          have L73 : Hid (w.heap.size + 3 < w7.heap.size) := Lib.hid (by omega)
          have L74 : Hid (w.heap.size + 4 < w7.heap.size) := Lib.hid (by omega)
          go_region_law (first | (refine step_pushRow rfl (.tmp 32) (.tmp 35) rfl (w.heap.size + 5) (.slice av j cv) L d a9 d.l.length c9 rfl (FreshZ.ext F7.out (Ext.alloc x8 _)) w8.heap.size 1 rfl (rowIn_alloc w8 _ d _) j HLL.out (by omega) (by have := x8.size; rw [World.size_alloc]; omega) ?_; intro ao' c' W' hf' hg' hloc'; have m0 := farZ F7.out (Ext.alloc x8 _) hg' a0 (by omega); have m1 := farZ F7.out (Ext.alloc x8 _) hg' a1 (by omega); have m2 := farZ F7.out (Ext.alloc x8 _) hg' e0 (by omega); have m3 := farZ_free F7.out (Ext.alloc x8 _) hg' e0 (S7.out.tab.out.frozenAt k) (by omega)) | (go_simp; go_at_call 114; refine (l4OwnRow_any d _ _ (HI7.out.ext (Ext.drew (Ext.refl _))) HDL.out).mono ?_; rintro e w8 ⟨y9, rfl, f9, x8'⟩; obtain ⟨a9, c9, rfl⟩ := f9.form; have x8 : Ext w7 w8 := (Ext.drew (Ext.refl _)).trans x8'; have b0 := x8.cell a0; have b1 := x8.cell a1; have b2 := x8.cell e0; have l3 : w.heap.size + 3 < w8.heap.size := Nat.lt_of_lt_of_le L73.out x8.size; have l4 : w.heap.size + 4 < w8.heap.size := Nat.lt_of_lt_of_le L74.out x8.size; have l5 : w.heap.size + 3 ≠ w8.heap.size := Nat.ne_of_lt l3; have l6 : w.heap.size + 4 ≠ w8.heap.size := Nat.ne_of_lt l4))
          all_goals
            have F9 : Fresh (w.heap.size + 5) (w8.alloc (.cells #[.int .i64 d.b, .int .i64 d.v, .int .i64 d.st, .int .i64 d.k, .int .i64 d.i, .int .i64 d.f, .int .i64 d.t, .int .i64 d.a, .int .i64 d.s, .slice a9 d.l.length c9] 83)) (.slice a9 d.l.length c9) d.l := (f9.more (by simp; omega)).ext (Ext.alloc1 _ _)
            have hN := Lib.hid (S7.out.grow HV.out HL.out (Ext.alloc x8 _) (by omega) (by omega) hg' hf' hloc' F9)
            have hPN : Hid (rowsP (P.set k (L ++ [(d, .slice a9 d.l.length c9)])) = copT T T.length k (j + 1)) := Lib.hid (by
              obtain ⟨hj', ej⟩ := rowQ_in HRR.out HJT.out
              rw [rowsP_grow HL.out, HP.out, ← copT_step HLT.out HLT.out hj', ej, HD.out])
            clear F9 f9 x8 x8' hg' hf' hloc' m0 m1 m2 m3 b0 b1 b2 l3 l4 l5 l6 a0 a1 e0 p0 p1 p2 p3 p4 p5 p6 p7 p8 p9
            go_wp2
            go_roundw
            case rel => exact ⟨j + 1, _, _, by have := HJT.out; omega, by go_num, hN, hPN⟩
            case measure => simp [intOf]; have := HJT.out; omega
        · obtain rfl : j = R.length := by omega
          have HPN : Hid (rowsP P = copT T T.length (k + 1) 0) := Lib.hid (by rw [HP.out, HRR.out, copT_next HLT.out])
          go_wp2
          go_roundw
          case rel => exact ⟨k + 1, vs, P, by have := HLT.out; omega, by go_num, HS, HPN⟩
          case measure => simp [intOf]; have := HLT.out; omega
    · obtain rfl : k = T.length := by omega
      have HPN : Hid (rowsP P = T) := Lib.hid (by rw [HP.out, copT_all])
      obtain ⟨a0, a1⟩ := HS.out.box
      obtain ⟨⟨z0, z1⟩, f0, f1⟩ := HS.out.res
      have HF := Lib.hid (((HS.out.tab.set (b := w.heap.size + 1) (o := 0) (.int .i64 T.length) (by omega) (by omega)).set (b := w.heap.size + 1) (o := 1) (.slice (some ⟨w.heap.size + 3, 0, none⟩) T.length T.length) (by omega) (by omega)))
      have HX := Lib.hid ((HS.out.ext.setc (a := ⟨w.heap.size + 1, 0, none⟩) (v := .int .i64 T.length) (by dsimp only; omega)).setc (a := ⟨w.heap.size + 1, 1, none⟩) (v := .slice (some ⟨w.heap.size + 3, 0, none⟩) T.length T.length) (by dsimp only; omega))
      go_wp2
      refine bodyPost_ret (v := .agg #[.int .i64 T.length, .slice (some ⟨w.heap.size + 3, 0, none⟩) T.length T.length]) (by simp [results, Tryz.results93, go_sem, z0, z1]) rfl ⟨w.heap.size + 3, vs, P, rfl, HF.out.more (by omega), HPN.out, by omega, HX.out⟩
end Go.Proofs.YtcpmfcigciknlaaGreat

namespace Go.Proofs.YtcpmfcigciknlaaGreat
open Go.RowKit
set_option linter.unusedVariables false
theorem flatC_put {L : List (RowD × Value)} {j : Nat} (hj : j < L.length) (x : RowD × Value) : putL (flatC cellsR L) (j * 10) (rowL x.1 x.2) = flatC cellsR (L.set j x) := by
  have hlen := flatC_len cellsR_len L
  have hl : (rowL x.1 x.2).length = 10 := rfl
  refine List.ext_getElem? fun i => ?_
  by_cases hi : i < L.length * 10
  · obtain ⟨q, r, rfl, hr⟩ : ∃ q r, i = q * 10 + r ∧ r < 10 := ⟨i / 10, i % 10, by omega, by omega⟩
    have hq : q < L.length := by omega
    have hq' : q < (L.set j x).length := by rw [List.length_set]; exact hq
    rw [flatC_at cellsR_len hq' hr]
    by_cases e : q = j
    · subst e
      rw [putL_in _ _ _ r (by rw [hl]; exact hr) (by rw [hl, hlen]; omega), List.getElem_set_self]
      rfl
    · rw [putL_out _ _ _ _ (by rw [hl]; omega), flatC_at cellsR_len hq hr, List.getElem_set_ne (fun h => e h.symm)]
  · rw [List.getElem?_eq_none (by rw [putL_len, hlen]; omega), List.getElem?_eq_none (by rw [flatC_len cellsR_len, List.length_set]; omega)]
theorem OwnTab.put {lo g m k b n c j : Nat} {w : World} {vs : List Value} {P : List (List (RowD × Value))} {L : List (RowD × Value)} (h : OwnTab lo w g m vs P) (hk : vs[k]? = some (.slice (some ⟨b, 0, none⟩) n c)) (hP : P[k]? = some L) (hj : j < L.length) (x : RowD × Value) (hx : Fresh lo w x.2 x.1.l) :
    OwnTab lo (w.setCells b (j * 10) (rowL x.1 x.2)) g m vs (P.set k (L.set j x)) ∧ w.grownBy (w.setCells b (j * 10) (rowL x.1 x.2)) (some b) := by
  have f := h.row _ _ _ hk hP
  have hn : n = L.length := by
    obtain ⟨a, c', e⟩ := f.form
    simp only [Value.slice.injEq] at e
    exact e.2.1
  subst hn
  have hkp : k < P.length := (List.getElem?_eq_some_iff.1 hP).1
  obtain ⟨f1, t⟩ := ownsRow_stores (rowL x.1 x.2) (j * 10) w _ f
  rw [flatC_put hj] at f1
  have hd : ∀ (u : Value) (l : List Int), Fresh lo w u l → Fresh lo (w.setCells b (j * 10) (rowL x.1 x.2)) u l := fun u l hu => World.ownsRow.kept hu t (types_apart f hu (by decide))
  refine ⟨⟨World.ownsRow.kept h.out t (types_apart f h.out (by decide)), h.vl, by rw [List.length_set]; exact h.pl, fun i v M hv hM => ?_, h.apart, fun M hM y hy => ?_⟩, t⟩
  · by_cases e : i = k
    · subst e
      rw [List.getElem?_set_self hkp] at hM
      rw [hk] at hv
      cases hv; cases hM
      unfold FreshZ
      rw [List.length_set]
      exact f1
    · rw [List.getElem?_set_ne (fun h => e h.symm)] at hM
      exact World.ownsRow.kept (h.row i v M hv hM) t (h.apart i k v _ e hv hk)
  · rcases List.mem_or_eq_of_mem_set hM with hM | rfl
    · exact hd _ _ (h.dep M hM y hy)
    · rcases List.mem_or_eq_of_mem_set hy with hy | rfl
      · exact hd _ _ (h.dep L (List.mem_of_getElem? hP) y hy)
      · exact hd _ _ hx
theorem FreshZ.store {lo lo' b n c j : Nat} {w : World} {L : List (RowD × Value)} {d : RowD} {z : Value} {l : List Int} (h : FreshZ lo w (.slice (some ⟨b, 0, none⟩) n c) L) (hj : j < L.length) (hz : Fresh lo' w z l) :
    Sem.run Tryz.prog (storeCells ⟨b, j * 10, none⟩ (rowL d z)) w = .ok () (w.setCells b (j * 10) (rowL d z)) := by
  have hn : n = L.length := by
    obtain ⟨a, c', e⟩ := h.form
    simp only [Value.slice.injEq] at e
    exact e.2.1
  subst hn
  have hc : ∀ q, q < 10 → ∃ v, w.cell? ⟨b, j * 10 + q, none⟩ = some v := fun q hq => by
    have h1 := h.cellAt (j * 10 + q) (by omega)
    rw [flatC_at cellsR_len hj hq] at h1
    exact ⟨_, h1.trans (List.getElem?_eq_getElem (by rw [cellsR_len]; exact hq))⟩
  obtain ⟨v0, s0⟩ := hc 0 (by omega)
  obtain ⟨v1, s1⟩ := hc 1 (by omega)
  obtain ⟨v2, s2⟩ := hc 2 (by omega)
  obtain ⟨v3, s3⟩ := hc 3 (by omega)
  obtain ⟨v4, s4⟩ := hc 4 (by omega)
  obtain ⟨v5, s5⟩ := hc 5 (by omega)
  obtain ⟨v6, s6⟩ := hc 6 (by omega)
  obtain ⟨v7, s7⟩ := hc 7 (by omega)
  obtain ⟨v8, s8⟩ := hc 8 (by omega)
  obtain ⟨v9, s9⟩ := hc 9 (by omega)
  rw [Nat.add_zero] at s0
  have z0 := h.frozenAt (j * 10)
  have z1 := h.frozenAt (j * 10 + 1)
  have z2 := h.frozenAt (j * 10 + 2)
  have z3 := h.frozenAt (j * 10 + 3)
  have z4 := h.frozenAt (j * 10 + 4)
  have z5 := h.frozenAt (j * 10 + 5)
  have z6 := h.frozenAt (j * 10 + 6)
  have z7 := h.frozenAt (j * 10 + 7)
  have z8 := h.frozenAt (j * 10 + 8)
  have z9 := h.frozenAt (j * 10 + 9)
  obtain ⟨az, kz, rfl⟩ := hz.form
  rw [setCells_row]
  unfold rowL
  go_simp
structure SetS (w wr : World) (g N : Nat) (n : Int) (m : Nat) (vs : List Value) (P : List (List (RowD × Value))) : Prop where
  tab : OwnTab (g + 1) wr g m vs P
  box : AttrAt wr N n (.slice (some ⟨g, 0, none⟩) m m)
  off : ∀ (k : Nat) (v : Value), vs[k]? = some v → v.ownBlock = none ∨ v.ownBlock ≠ some N
  ext : Ext w wr
  lo : N + 1 ≤ wr.heap.size
  gN : g < N
  wg : w.heap.size ≤ g
theorem SetS.on {w wr w' : World} {g N : Nat} {n : Int} {m : Nat} {vs : List Value} {P : List (List (RowD × Value))} (h : SetS w wr g N n m vs P) (e : Ext wr w') : SetS w w' g N n m vs P := ⟨h.tab.ext e, h.box.ext e, h.off, h.ext.trans e, Nat.le_trans h.lo e.size, h.gN, h.wg⟩
theorem nearZ {b o : Nat} {W W' : World} {v x : Value} (t : W.grownBy W' v.ownBlock) (hc : W.cell? ⟨b, o, none⟩ = some x) (hb : v.ownBlock = none ∨ v.ownBlock ≠ some b) : W'.cell? ⟨b, o, none⟩ = some x :=
  World.grownBy.cell t hc (fun e' => by
    rcases hb with h | h
    · rw [h] at e'; cases e'
    · exact h e'.symm)
theorem SetS.grow {w wr W W' : World} {g N : Nat} {n : Int} {m k : Nat} {vs : List Value} {P : List (List (RowD × Value))} {v v' : Value} {L : List (RowD × Value)} {x : RowD × Value} (h : SetS w wr g N n m vs P) (hk : vs[k]? = some v) (hP : P[k]? = some L) (e : Ext wr W)
    (t : W.grownBy W' v.ownBlock) (f : FreshZ (g + 1) W' v' (L ++ [x])) (loc : v'.ownBlock = v.ownBlock ∨ v'.ownBlock = some W.heap.size) (hx : Fresh (g + 1) W x.2 x.1.l) :
    SetS w (W'.setCell ⟨g, k, none⟩ v') g N n m (vs.set k v') (P.set k (L ++ [x])) := by
  have hz := h.tab.row k v L hk hP
  have hs := t.size
  have he := e.size
  have hlo := h.lo
  have hgN := h.gN
  have hwg := h.wg
  refine ⟨(h.tab.ext e).grow hk hP t f loc hx, ?_, fun i u hu => ?_, ?_, by simp only [World.size_setCell]; omega, hgN, hwg⟩
  · have h1 := h.box.ext e
    have h0 : AttrAt W' N n (.slice (some ⟨g, 0, none⟩) m m) := ⟨nearZ t h1.1 (h.off k v hk), nearZ t h1.2 (h.off k v hk)⟩
    exact h0.other (by omega)
  · by_cases ei : k = i
    · subst ei
      rw [List.getElem?_set_self (List.getElem?_eq_some_iff.1 hk).1] at hu
      cases hu
      rcases loc with a | a
      · rw [a]; exact h.off k v hk
      · exact .inr (fun e' => by rw [a] at e'; have := Option.some.inj e'; omega)
    · rw [List.getElem?_set_ne ei] at hu
      exact h.off i u hu
  · have h0 : Ext w W' := Below.grown (h.ext.trans e) t (h.ext.trans e).size (fun b hb => by
      have := (World.ownsRow.lt hz b hb).1
      omega)
    exact h0.setc (by dsimp only; omega)
theorem SetS.put {w wr : World} {g N : Nat} {n : Int} {m k b e c j : Nat} {vs : List Value} {P : List (List (RowD × Value))} {L : List (RowD × Value)} (h : SetS w wr g N n m vs P) (hk : vs[k]? = some (.slice (some ⟨b, 0, none⟩) e c)) (hP : P[k]? = some L) (hj : j < L.length) (x : RowD × Value) (hx : Fresh (g + 1) wr x.2 x.1.l) :
    SetS w (wr.setCells b (j * 10) (rowL x.1 x.2)) g N n m vs (P.set k (L.set j x)) := by
  obtain ⟨h1, t⟩ := h.tab.put hk hP hj x hx
  have hb := World.ownsRow.lt (h.tab.row _ _ _ hk hP) b rfl
  have ho : (Value.slice (some ⟨b, 0, none⟩) e c).ownBlock = none ∨ (Value.slice (some ⟨b, 0, none⟩) e c).ownBlock ≠ some N := h.off k _ hk
  have t' : wr.grownBy (wr.setCells b (j * 10) (rowL x.1 x.2)) (Value.slice (some ⟨b, 0, none⟩) e c).ownBlock := t
  refine ⟨h1, ⟨nearZ t' h.box.1 ho, nearZ t' h.box.2 ho⟩, h.off, Below.grown h.ext t h.ext.size (fun q hq => by
    have := Option.some.inj hq
    have := h.wg
    omega), Nat.le_trans h.lo t.size, h.gN, h.wg⟩
end Go.Proofs.YtcpmfcigciknlaaGreat

namespace Go.Proofs.YtcpmfcigciknlaaGreat
open Go.RowKit
set_option linter.unusedVariables false
def weighs (T : List (List RowD)) : List Nat := T.map fun R => (weigh R).sum
theorem weighs_len (T : List (List RowD)) : (weighs T).length = T.length := by simp [weighs]
theorem weighs_get {T : List (List RowD)} {k : Nat} (h : k < T.length) : (weighs T)[k]'(by rw [weighs_len]; exact h) = (weigh T[k]).sum := by simp [weighs]
theorem weighs_sum (T : List (List RowD)) : (weighs T).sum ≤ 10 * bulkT T := by
  unfold weighs bulkT
  induction T with
  | nil => simp
  | cons R T ih =>
    have := weigh_sum R
    simp at ih ⊢; omega
def Marked (lo hi : Nat) (k : Int) (n : Nat) (w : World) (e : Ending) (w' : World) : Prop := e = .returned (.int .i64 (k + n)) ∧ Ins lo hi w w'
set_option maxHeartbeats 4000000 in
set_option maxRecDepth 100000 in
theorem markRowSS_any (lo hi : Nat) (v : Value) (T : List (List RowD)) (k : Int) (w : World) (hv : FreshT lo hi w v T) (h0 : 0 ≤ k) (hk : k ≤ 1073741824) (h1 : bulkT T ≤ 10995116277) :
    Calls Tryz.prog 41 #[v, .int .i64 k] w (Marked lo hi k (weighs T).sum w) := by
  obtain ⟨vs, cut, ho, hU, hcut, hc0, hcn, hF⟩ := hv
  have hvl : vs.length = T.length := by have := ho.1; omega
  have hws := weighs_sum T
  rcases ho.2 with ⟨rfl, hn⟩ | ⟨g, cap, cur, rfl, hb, hg, hnc, hcm, hcs, htake⟩
  · obtain rfl : T = [] := List.eq_nil_of_length_eq_zero hn
    clear h1 hws
    go_enter Tryz.func41, Tryz.ntmps41
    go_wp2
    refine wp_loop_rounds 1 ?_; rw [rounds_succ]
    go_wp2
    go_ret
    exact ⟨by simp [weighs], Ins.refl _ _ _⟩
  · have hgc : g < cut 0 := hU g rfl
    have hm := cut_mono hcut
    have hfr : Hid (∀ i (h : i < T.length) (h' : i < vs.length), 0 ≤ i → FreshI (cut i) (cut (i + 1)) w vs[i] T[i]) := Lib.hid fun i h h' _ => hF i h h'
    have HM := Lib.hid hm
    have HGC := Lib.hid hgc
    have HC0 := Lib.hid hc0
    have HCN := Lib.hid hcn
    have HVL := Lib.hid hvl
    have HWS := Lib.hid hws
    have H1 := Lib.hid h1
    have hLen : T.length ≤ 1099511627776 := by unfold bulkT at h1; omega
    clear hg hnc hcm hcs htake cur hb hU hcut hF hm hgc hc0 hcn hvl hws h1
    go_enter Tryz.func41, Tryz.ntmps41
    go_wp2
    go_loopw [1, 5] (fun m i wr => ∃ (j : Nat) (r : Int), j ≤ T.length ∧ i = .int .i64 j ∧ m = .int .i64 r ∧ Hid (r = k + sumN (weighs T) j) ∧ wr.ownsRow lo 117 1 (.slice (some ⟨g, 0, none⟩) T.length cap) T.length vs ∧ Hid (∀ i (h : i < T.length) (h' : i < vs.length), j ≤ i → FreshI (cut i) (cut (i + 1)) wr vs[i] T[i]) ∧ Ins lo hi w wr) (fun _ i _ => T.length - (intOf i).toNat)
    case atStart => exact ⟨0, k, Nat.zero_le _, rfl, rfl, Lib.hid (by rw [sumN_zero]; simp), ho, hfr, Ins.refl _ _ _⟩
    case round =>
      clear ho hfr
      obtain ⟨j, r, hj, rfl, rfl, hr, ho, hF, hI⟩ := hrel
      by_cases hlt : j < T.length
      · have hjv : j < vs.length := by rw [HVL.out]; exact hlt
        obtain ⟨d, hd⟩ : ∃ d, d = T[j] := ⟨_, rfl⟩
        obtain ⟨u, hu⟩ : ∃ u, u = vs[j] := ⟨_, rfl⟩
        have hf := hF.out j hlt hjv (Nat.le_refl _)
        rw [← hd, ← hu] at hf
        have hlen : bulkR d ≤ 1099511627776 := by rw [hd]; have := bulkT_row hlt; have := H1.out; omega
        have hr0 : 0 ≤ r := by have := hr.out; omega
        have hr1 : r ≤ 1099511627776 := by
          have h := hr.out
          have h2 := sumN_mono (g := weighs T) (k := j) (by rw [weighs_len]; omega)
          have := HWS.out; have := H1.out; omega
        have hwd := weigh_sum d
        have hc := (ho.cellAt j (by omega)).trans (List.getElem?_eq_getElem hjv)
        rw [← hu] at hc
        have HO := Lib.hid ho
        have HFF := Lib.hid hf
        have HD := Lib.hid hd
        have HU := Lib.hid hu
        clear ho hf hd hu
        go_wp2_with fail
        refine (markRowS_any (cut j) (cut (j + 1)) _ d _ _ HFF.out hr0 hr1 hlen).mono ?_
        rintro e w3 ⟨rfl, t3⟩
        have T3 := Lib.hid t3
        have hs := sumN_succ (g := weighs T) (k := j) (by rw [weighs_len]; exact hlt)
        rw [weighs_get hlt, ← HD.out] at hs
        have HS := Lib.hid hs
        clear t3 hs hc
        obtain ⟨q, hq⟩ : ∃ q, q = r + ((weigh d).sum : Int) := ⟨_, rfl⟩
        have hq0 : 0 ≤ q := by omega
        rw [← hq]
        have HQ := Lib.hid hq
        clear hq
        go_wp2
        go_roundw
        case rel =>
          have m1 := HM.out 0 j (by omega) (by omega)
          have m2 := HM.out (j + 1) T.length (by omega) (Nat.le_refl _)
          have m3 := HGC.out
          have m4 := HC0.out
          have m5 := HCN.out
          refine ⟨j + 1, q, by omega, by go_num, rfl, Lib.hid (by have h1 := hr.out; have h2 := HS.out; have h3 := HQ.out; omega), T3.out.row HO.out (fun b e => .inl (by have := Option.some.inj e; simp at this; omega)), Lib.hid fun i h h' hij => ?_, hI.trans (T3.out.more (by omega) (by omega))⟩
          obtain ⟨zs, us, q1, q2, q3, q4, q5, q6⟩ := hF.out i h h' (by omega)
          have m6 := HM.out (j + 1) i (by omega) (by omega)
          refine ⟨zs, us, T3.out.row q1 (fun b e => .inr (by have := (World.ownsRow.lt q1 b e).1; omega)), q2, ⟨q3.len, fun a z l hz hl => T3.out.row (q3.row a z l hz hl) (fun b e => .inr (by have := (World.ownsRow.lt (q3.row a z l hz hl) b e).1; omega)), q3.apart⟩, q4, q5, q6⟩
        case measure => simp [intOf]; omega
      · obtain rfl : j = T.length := by omega
        go_wp2
        go_ret
        refine ⟨?_, hI⟩
        have h := hr.out
        have h2 := sumN_all (weighs T)
        rw [weighs_len] at h2
        rw [h2] at h
        rw [h]; rfl
set_option maxHeartbeats 1000000 in
theorem markTable_any (lo hi : Nat) (n : Int) (v : Value) (T : List (List RowD)) (k : Int) (w : World) (hv : FreshT lo hi w v T) (hhi : hi ≤ w.heap.size) (h0 : 0 ≤ k) (hk : k ≤ 1073741824) (h1 : bulkT T ≤ 10995116277) :
    Calls Tryz.prog 14 #[.agg #[.int .i64 n, v], .int .i64 k] w (Marked lo hi k (weighs T).sum w) := by
  have hws := weighs_sum T
  have hq0 : 0 ≤ k + ((weighs T).sum : Int) := by omega
  have HX : Hid (Ins lo hi w (w.alloc (.cells #[.int .i64 n, v] 32))) := Lib.hid (Ins.of_ext (Ext.alloc (Ext.refl _) _))
  have HV := Lib.hid (hv.kept (Stood.of_ext (Ext.alloc (Ext.refl _) (.cells #[.int .i64 n, v] 32)) hhi))
  have H1 := Lib.hid h1
  clear hws hv h1
  go_enter Tryz.func14, Tryz.ntmps14
  go_wp2_with fail
  refine (markRowSS_any lo hi _ T _ _ HV.out h0 hk H1.out).mono ?_
  rintro e w1 ⟨rfl, t1⟩
  have T1 := Lib.hid t1
  clear t1
  go_wp2
  go_ret
  exact ⟨rfl, HX.out.trans T1.out⟩
end Go.Proofs.YtcpmfcigciknlaaGreat

namespace Go.Proofs.YtcpmfcigciknlaaGreat
open Go.RowKit
set_option linter.unusedVariables false
theorem RowAt.ins {lo hi b : Nat} {w w' : World} {r : RowD} {u : Value} (h : RowAt w b r u) (k : Ins lo hi w w') (hb : b < lo ∨ hi ≤ b) : RowAt w' b r u := by
  obtain ⟨h0, h1, h2, h3, h4, h5, h6, h7, h8, h9⟩ := h
  exact ⟨k.cell h0 hb, k.cell h1 hb, k.cell h2 hb, k.cell h3 hb, k.cell h4 hb, k.cell h5 hb, k.cell h6 hb, k.cell h7 hb, k.cell h8 hb, k.cell h9 hb⟩
theorem AttrAt.ins {lo hi b : Nat} {w w' : World} {s : Int} {u : Value} (h : AttrAt w b s u) (k : Ins lo hi w w') (hb : b < lo ∨ hi ≤ b) : AttrAt w' b s u := ⟨k.cell h.1 hb, k.cell h.2 hb⟩
theorem Rowzz.ins {lo hi : Nat} {w0 w w' : World} {v : Value} {T : List (List RowD)} (h0 : Rowzz w0 v T) (x : Ext w0 w) (k : Ins lo hi w w') (hb : w0.heap.size ≤ lo) : Rowzz w' v T := h0.ext (k.ext x hb)
end Go.Proofs.YtcpmfcigciknlaaGreat

namespace Go.Proofs.YtcpmfcigciknlaaGreat
open Go.RowKit
set_option linter.unusedVariables false
def SSI (h : Nat) (w : World) (v : Value) (L : List (List Int)) : Prop := ∃ vs, w.ownsRow 0 26 1 v L.length vs ∧ Rows_ 0 w vs L ∧ Und h v ∧ ∀ (j : Nat) (u : Value), vs[j]? = some u → Und h u
theorem FreshSS.below {B h : Nat} {w : World} {v : Value} {L : List (List Int)} (f : FreshSS B w v L) (hb : w.heap.size ≤ h) : SSI h w v L := by
  obtain ⟨vs, h1, h2, _⟩ := f
  refine ⟨vs, ownsRow_more h1 (Nat.zero_le _), h2.more (Nat.zero_le _), fun b e => Nat.lt_of_lt_of_le (World.ownsRow.lt h1 b e).2 hb, fun j u hu => ?_⟩
  have hj : j < vs.length := (List.getElem?_eq_some_iff.1 hu).1
  exact (h2.row j u _ hu (List.getElem?_eq_getElem (by rw [← h2.len]; exact hj))).und.more hb
theorem SSI.stood {h : Nat} {w w' : World} {v : Value} {L : List (List Int)} (f : SSI h w v L) (k : Stood 0 h w w') : SSI h w' v L := by
  obtain ⟨vs, h1, h2, h3, h4⟩ := f
  refine ⟨vs, k.row h1 (fun b e => ⟨Nat.zero_le _, h3 b e⟩), ⟨h2.len, fun j u l hu hl => k.row (h2.row j u l hu hl) (fun b e => ⟨Nat.zero_le _, h4 j u hu b e⟩), h2.apart⟩, h3, h4⟩
theorem SSI.ext {h : Nat} {w w' : World} {v : Value} {L : List (List Int)} (f : SSI h w v L) (e : Ext w w') : SSI h w' v L := by
  obtain ⟨vs, h1, h2, h3, h4⟩ := f
  exact ⟨vs, e.ownsRow h1, h2.ext e, h3, h4⟩
theorem SSI.intss {h : Nat} {w : World} {v : Value} {L : List (List Int)} (f : SSI h w v L) : Intss w v L := by
  obtain ⟨vs, h1, h2, h3, h4⟩ := f
  exact (FreshSS.of h1 h2).intss
theorem FreshSS.ins {lo hi B : Nat} {w w' : World} {v : Value} {L : List (List Int)} (f : FreshSS B w v L) (k : Ins lo hi w w') (hb : hi ≤ B) : FreshSS B w' v L := by
  obtain ⟨vs, h1, h2, h3⟩ := f
  exact ⟨vs, k.row h1 (fun b e => .inr (Nat.le_trans hb (World.ownsRow.lt h1 b e).1)), ⟨h2.len, fun j u l hu hl => (h2.row j u l hu hl).ins_high k hb, h2.apart⟩, h3⟩
def LiveS (w W : World) (N h3 B : Nat) (n : Int) (v v3 v5 : Value) (L M : List (List Int)) : Prop :=
  Ext w W ∧ AttrAt W N n v ∧ SSI h3 W v3 L ∧ FreshSS B W v5 M
theorem LiveS.ext {w W W' : World} {N h3 B : Nat} {n : Int} {v v3 v5 : Value} {L M : List (List Int)} (h : LiveS w W N h3 B n v v3 v5 L M) (e : Ext W W') : LiveS w W' N h3 B n v v3 v5 L M :=
  ⟨h.1.trans e, h.2.1.ext e, h.2.2.1.ext e, h.2.2.2.ext e⟩
theorem LiveS.ins {w W W' : World} {N h3 B lo hi : Nat} {n : Int} {v v3 v5 : Value} {L M : List (List Int)} (h : LiveS w W N h3 B n v v3 v5 L M) (k : Ins lo hi W W')
    (h0 : w.heap.size ≤ lo) (hN : N < lo) (hh : h3 ≤ lo) (hB : hi ≤ B) (hs : h3 ≤ W.heap.size) : LiveS w W' N h3 B n v v3 v5 L M := by
  obtain ⟨a, b, c, e⟩ := h
  exact ⟨k.ext a h0, b.ins k (.inl hN), c.stood (k.stood hs (.inl hh)), e.ins k hB⟩
theorem LiveS.mark {w W W' : World} {N h3 B : Nat} {n : Int} {v v3 v5 : Value} {L M M' : List (List Int)} (h : LiveS w W N h3 B n v v3 v5 L M) (k : Below B W W') (f' : FreshSS B W' v5 M')
    (h0 : w.heap.size ≤ B) (hN : N < B) (hh : h3 ≤ B) : LiveS w W' N h3 B n v v3 v5 L M' := by
  obtain ⟨a, b, c, e⟩ := h
  exact ⟨a.under k h0, ⟨(Below.cell k (p := ⟨N, 0, none⟩) hN).trans b.1, (Below.cell k (p := ⟨N, 1, none⟩) hN).trans b.2⟩, c.stood ⟨k.size, fun x _ h2 => Below.block k x (by omega)⟩, f'⟩
end Go.Proofs.YtcpmfcigciknlaaGreat

namespace Go.Proofs.YtcpmfcigciknlaaGreat
open Go.RowKit
set_option linter.unusedVariables false
structure LiveQ (w W3 W : World) (N B : Nat) (n : Int) (v v3 v5 : Value) (L M : List (List Int)) : Prop where
  ext : Ext w W
  arg : AttrAt W N n v
  old : Ext W3 W
  i3 : Intss W3 v3 L
  f5 : FreshSS B W v5 M
theorem LiveQ.on {w W3 W W' : World} {N B : Nat} {n : Int} {v v3 v5 : Value} {L M : List (List Int)} (h : LiveQ w W3 W N B n v v3 v5 L M) (e : Ext W W') : LiveQ w W3 W' N B n v v3 v5 L M :=
  ⟨h.ext.trans e, h.arg.ext e, h.old.trans e, h.i3, h.f5.ext e⟩
theorem LiveQ.ins {w W3 W W' : World} {N B lo hi : Nat} {n : Int} {v v3 v5 : Value} {L M : List (List Int)} (h : LiveQ w W3 W N B n v v3 v5 L M) (k : Ins lo hi W W')
    (h0 : w.heap.size ≤ lo) (hN : N < lo) (hh : W3.heap.size ≤ lo) (hB : hi ≤ B) : LiveQ w W3 W' N B n v v3 v5 L M :=
  ⟨k.ext h.ext h0, h.arg.ins k (.inl hN), k.ext h.old hh, h.i3, h.f5.ins k hB⟩
theorem LiveQ.mark {w W3 W W' : World} {N B : Nat} {n : Int} {v v3 v5 : Value} {L M M' : List (List Int)} (h : LiveQ w W3 W N B n v v3 v5 L M) (k : Below B W W') (f' : FreshSS B W' v5 M')
    (h0 : w.heap.size ≤ B) (hN : N < B) (hh : W3.heap.size ≤ B) : LiveQ w W3 W' N B n v v3 v5 L M' :=
  ⟨h.ext.under k h0, ⟨(Below.cell k (p := ⟨N, 0, none⟩) hN).trans h.arg.1, (Below.cell k (p := ⟨N, 1, none⟩) hN).trans h.arg.2⟩, h.old.under k hh, h.i3, f'⟩
end Go.Proofs.YtcpmfcigciknlaaGreat
