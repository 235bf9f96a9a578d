/- Texts of this proof, part o: words, plain facts, contracts. -/
import Derived.Test.YtbffkidkfannhaaMGoodReplican
import Derived.Test.YtbffkidkfannhaaMGoodReplicaj
import Derived.Test.YtbffkidkfannhaaMGoodReplicag
import Derived.Laws.CopyOwn
import Derived.Test.YtbffkidkfannhaaMGoodReplicac

namespace Go.Proofs.Ytbffkidkfannhaa
open Go.RowKit
set_option linter.unusedVariables false

structure OwnTab (lo : Nat) (w : World) (g m : Nat) (vs : List Value) (P : List (List (RowD × Value))) : Prop where
  out : w.ownsRow 0 67 1 (.slice (some ⟨g, 0, none⟩) m m) m vs
  vl : vs.length = m
  pl : P.length = m
  row : ∀ (k : Nat) (v : Value) (L : List (RowD × Value)), vs[k]? = some v → P[k]? = some L → FreshZ lo w v L
  apart : ∀ (i j : Nat) (u v : Value), i ≠ j → vs[i]? = some u → vs[j]? = some v → u.ownBlock = none ∨ u.ownBlock ≠ v.ownBlock
  dep : ∀ L ∈ P, ∀ x ∈ L, Fresh lo w x.2 x.1.l
theorem OwnTab.ext {lo g m : Nat} {w w' : World} {vs : List Value} {P : List (List (RowD × Value))} (h : OwnTab lo w g m vs P) (e : Ext w w') : OwnTab lo w' g m vs P :=
  ⟨e.ownsRow h.out, h.vl, h.pl, fun k v L hv hL => (h.row k v L hv hL).ext e, h.apart, fun L hL x hx => (h.dep L hL x hx).ext e⟩
theorem OwnTab.at {lo g m k : Nat} {w : World} {vs : List Value} {P : List (List (RowD × Value))} (h : OwnTab lo w g m vs P) (hk : k < m) : ∃ v L, vs[k]? = some v ∧ P[k]? = some L ∧ w.cell? ⟨g, k, none⟩ = some v ∧ w.frozen? ⟨g, k, none⟩ = false ∧ FreshZ lo w v L := by
  have h1 : k < vs.length := by rw [h.vl]; exact hk
  have h2 : k < P.length := by rw [h.pl]; exact hk
  refine ⟨vs[k], P[k], List.getElem?_eq_getElem h1, List.getElem?_eq_getElem h2, ?_, h.out.frozenAt k, h.row _ _ _ (List.getElem?_eq_getElem h1) (List.getElem?_eq_getElem h2)⟩
  rw [h.out.cellAt k (by omega)]
  exact List.getElem?_eq_getElem h1
theorem FreshZ.form {B : Nat} {w : World} {v : Value} {P : List (RowD × Value)} (h : FreshZ B w v P) : ∃ ao cap, v = .slice ao P.length cap := by
  rcases h.2 with ⟨rfl, hn⟩ | ⟨g, cap, cur, rfl, _⟩
  · exact ⟨none, 0, by rw [hn]⟩
  · exact ⟨_, _, rfl⟩
theorem fresh_kept {lo : Nat} {w w' : World} {u : Value} {l : List Int} {row : Option Nat} (h : Fresh lo w u l) (t : w.grownBy w' row) (ap : u.ownBlock = none ∨ u.ownBlock ≠ row) : Fresh lo w' u l := World.ownsRow.kept h t ap
/-- A row is appended to list k. -/
theorem OwnTab.grow {lo g m k : Nat} {w w' : World} {vs : List Value} {P : List (List (RowD × Value))} {v v' : Value} {L : List (RowD × Value)} {x : RowD × Value} (h : OwnTab lo w g m vs P) (hk : vs[k]? = some v) (hP : P[k]? = some L)
    (t : w.grownBy w' v.ownBlock) (f : FreshZ lo w' v' (L ++ [x])) (loc : v'.ownBlock = v.ownBlock ∨ v'.ownBlock = some w.heap.size) (hx : Fresh lo w x.2 x.1.l) :
    OwnTab lo (w'.setCell ⟨g, k, none⟩ v') g m (vs.set k v') (P.set k (L ++ [x])) := by
  have hfz := h.row k v L hk hP
  have ho1 := World.ownsRow.kept h.out t (types_apart hfz h.out (by decide))
  have hst := ho1.stored k v'
  have hkv : k < vs.length := (List.getElem?_eq_some_iff.1 hk).1
  have hkp : k < P.length := (List.getElem?_eq_some_iff.1 hP).1
  have hz : ∀ (u : Value) (M : List (RowD × Value)), FreshZ lo w' u M → FreshZ lo (w'.setCell ⟨g, k, none⟩ v') u M := fun u M hu => World.ownsRow.kept hu hst.2 (types_apart ho1 hu (by decide))
  have hd : ∀ (u : Value) (l : List Int), Fresh lo w u l → Fresh lo (w'.setCell ⟨g, k, none⟩ v') u l := fun u l hu => by
    have h1 : Fresh lo w' u l := World.ownsRow.kept hu t (types_apart hfz hu (by decide))
    exact World.ownsRow.kept h1 hst.2 (types_apart ho1 h1 (by decide))
  have hnew : ∀ (i : Nat) (u : Value), i ≠ k → vs[i]? = some u → (u.ownBlock = none ∨ u.ownBlock ≠ v'.ownBlock) ∧ (v'.ownBlock = none ∨ v'.ownBlock ≠ u.ownBlock) := fun i u hi hu => by
    rcases loc with e | e
    · rw [e]
      exact ⟨h.apart i k u v hi hu hk, h.apart k i v u (fun e => hi e.symm) hk hu⟩
    · rw [e]
      have hiL : i < P.length := by have := (List.getElem?_eq_some_iff.1 hu).1; have := h.vl; have := h.pl; omega
      have hfi := h.row i u _ hu (List.getElem?_eq_getElem hiL)
      cases hb : u.ownBlock with
      | none => exact ⟨.inl rfl, .inr (by simp)⟩
      | some b =>
        have := (World.ownsRow.lt hfi b hb).2
        exact ⟨.inr (fun e' => by have := Option.some.inj e'; omega), .inr (fun e' => by have := Option.some.inj e'; omega)⟩
  refine ⟨hst.1, by rw [List.length_set]; exact h.vl, by rw [List.length_set]; exact h.pl, fun i u M hu hM => ?_, fun i j u z hij hu hz' => ?_, fun M hM y hy => ?_⟩
  · by_cases e : i = k
    · subst e
      rw [List.getElem?_set_self hkv] at hu
      rw [List.getElem?_set_self hkp] at hM
      cases hu; cases hM
      exact hz _ _ f
    · rw [List.getElem?_set_ne (fun h => e h.symm)] at hu hM
      exact hz _ _ (World.ownsRow.kept (h.row i u M hu hM) t (h.apart i k u v e hu hk))
  · by_cases e : i = k
    · subst e
      rw [List.getElem?_set_self hkv] at hu
      rw [List.getElem?_set_ne (fun h => hij h)] at hz'
      cases hu
      exact (hnew j z (fun e => hij e.symm) hz').2
    · rw [List.getElem?_set_ne (fun h => e h.symm)] at hu
      by_cases e' : j = k
      · subst e'
        rw [List.getElem?_set_self hkv] at hz'
        cases hz'
        exact (hnew i u e hu).1
      · rw [List.getElem?_set_ne (fun h => e' h.symm)] at hz'
        exact h.apart i j u z hij hu hz'
  · rcases List.mem_or_eq_of_mem_set hM with hM | rfl
    · exact hd _ _ (h.dep M hM y hy)
    · rcases List.mem_append.1 hy with hy | hy
      · exact hd _ _ (h.dep L (List.mem_of_getElem? hP) y hy)
      · rw [List.mem_singleton] at hy
        rw [hy]
        exact hd _ _ hx
def rowsP (P : List (List (RowD × Value))) : List (List RowD) := P.map fun L => L.map Prod.fst
theorem OwnTab.rows {lo g m : Nat} {w : World} {vs : List Value} {P : List (List (RowD × Value))} (h : OwnTab lo w g m vs P) : Rowzz w (.slice (some ⟨g, 0, none⟩) m m) (rowsP P) := by
  have hl : (rowsP P).length = m := by unfold rowsP; rw [List.length_map]; exact h.pl
  rcases id h.out.2 with ⟨hv, _⟩ | ⟨g', cap, cur, hv, hb, hg, hnc, hcm, hcs, htake⟩
  · cases hv
  simp only [Value.slice.injEq, Option.some.injEq, Addr.mk.injEq, and_true, true_and] at hv
  obtain ⟨rfl, rfl⟩ := hv
  refine ⟨some ⟨g, 0, none⟩, m, by rw [hl], by rw [hl]; exact hcm, ⟨by rw [hl]; omega, hcm, fun h => by cases h⟩, fun hp => ⟨g, 0, rfl, fun j hj => ?_⟩⟩
  rw [hl] at hj
  obtain ⟨v, L, h1, h2, h3, _, h5⟩ := h.at hj
  have e : (rowsP P)[j]'(by rw [hl]; exact hj) = L.map Prod.fst := by
    have h6 := (List.getElem?_eq_some_iff.1 h2).2
    unfold rowsP
    rw [List.getElem_map, h6]
  refine ⟨v, by rw [Nat.zero_add]; exact h3, ?_⟩
  rw [e]
  exact h5.rowz (fun x hx => (h.dep L (List.mem_of_getElem? h2) x hx).ints)
theorem rowsP_grow {P : List (List (RowD × Value))} {k : Nat} {L : List (RowD × Value)} {x : RowD × Value} (hP : P[k]? = some L) : rowsP (P.set k (L ++ [x])) = (rowsP P).set k (((rowsP P)[k]?.getD []) ++ [x.1]) := by
  unfold rowsP
  rw [List.map_set, List.getElem?_map, hP]
  simp

/-- T's rows, copied as far as row j of list k. -/
def copL (T : List (List RowD)) (k j i : Nat) : List RowD := if i < k then T[i]?.getD [] else if i = k then (T[i]?.getD []).take j else []
def copT (T : List (List RowD)) (m k j : Nat) : List (List RowD) := (List.range m).map (copL T k j)
theorem copT_at {T : List (List RowD)} {m k j i : Nat} (h : i < m) : (copT T m k j)[i]? = some (copL T k j i) := by simp [copT, h]
theorem copT_len (T : List (List RowD)) (m k j : Nat) : (copT T m k j).length = m := by simp [copT]
theorem copT_zero (T : List (List RowD)) (m : Nat) : copT T m 0 0 = List.replicate m [] := by
  refine List.ext_getElem? fun i => ?_
  rw [List.getElem?_replicate]
  by_cases h : i < m
  · rw [copT_at h, if_pos h]
    unfold copL
    simp
  · rw [List.getElem?_eq_none (by rw [copT_len]; omega), if_neg h]
theorem copT_next {T : List (List RowD)} {m k : Nat} (hk : k < T.length) : copT T m k T[k].length = copT T m (k + 1) 0 := by
  unfold copT
  refine List.map_congr_left fun i _ => ?_
  unfold copL
  by_cases h1 : i < k
  · rw [if_pos h1, if_pos (by omega)]
  · rw [if_neg h1]
    by_cases h2 : i = k
    · subst h2
      rw [if_pos rfl, if_pos (by omega), List.getElem?_eq_getElem hk, Option.getD_some, List.take_length]
    · rw [if_neg h2, if_neg (by omega)]
      simp
theorem copT_step {T : List (List RowD)} {m k j : Nat} (hm : k < m) (hk : k < T.length) (hj : j < T[k].length) : (copT T m k j).set k (((copT T m k j)[k]?.getD []) ++ [T[k][j]]) = copT T m k (j + 1) := by
  refine List.ext_getElem? fun i => ?_
  rw [List.getElem?_set, copT_len, copT_at hm, Option.getD_some]
  by_cases hi : i < m
  · rw [copT_at hi, copT_at hi]
    by_cases e : k = i
    · subst e
      rw [if_pos rfl, if_pos hm]
      congr 1
      unfold copL
      rw [if_neg (by omega), if_pos rfl, if_neg (by omega), if_pos rfl, List.getElem?_eq_getElem hk, Option.getD_some, List.take_succ_eq_append_getElem hj]
    · rw [if_neg e]
      congr 1
      unfold copL
      by_cases h1 : i < k
      · rw [if_pos h1, if_pos h1]
      · rw [if_neg h1, if_neg h1, if_neg (fun h => e h.symm), if_neg (fun h => e h.symm)]
  · rw [if_neg (by omega), List.getElem?_eq_none (by rw [copT_len]; omega), List.getElem?_eq_none (by rw [copT_len]; omega)]
theorem copT_all (T : List (List RowD)) : copT T T.length T.length 0 = T := by
  refine List.ext_getElem? fun i => ?_
  by_cases hi : i < T.length
  · rw [copT_at hi, List.getElem?_eq_getElem hi]
    unfold copL
    rw [if_pos hi, List.getElem?_eq_getElem hi]
    rfl
  · rw [List.getElem?_eq_none (by rw [copT_len]; omega), List.getElem?_eq_none (by omega)]

/-- append(s, r), s of the call's own, as a step of a region that draws its order. -/
theorem step_pushRow {ops : Array Oper} {o : Oper} {a : Act} {w : World} {K : Act → World → Prop} {Q : Exit → Act → World → Prop} {E : Prop} (hgd : o.guard = none) (s x : Operand)
    (ho : o.op = .call { callee := .builtin .append, args := #[s, x], argTypes := #[67, 67] })
    (B : Nat) (v : Value) (L : List (RowD × Value)) (r : RowD) (ya : Option Addr) (yn yc : Nat) (hs : a.eval s = v) (hf : FreshZ B w v L) (gb : Nat) (c : Nat) (hx : a.eval x = .slice (some ⟨gb, 0, none⟩) 1 c)
    (hr : RowIn w gb 0 r (.slice ya yn yc)) (m : Nat) (hm : L.length = m) (hl : m ≤ 1048576) (hB : B ≤ w.heap.size)
    (h : ∀ ao cap w', FreshZ B w' (.slice ao (m + 1) cap) (L ++ [(r, .slice ya yn yc)]) → w.grownBy w' v.ownBlock → ((Value.slice ao (m + 1) cap).ownBlock = v.ownBlock ∨ (Value.slice ao (m + 1) cap).ownBlock = some w.heap.size) → K (a.put o.dst (.slice ao (m + 1) cap)) w') : if Region.wanted o (yielded ops a.tmps) = true then Oper.wp Try.prog o a w K Q else E := by
  obtain ⟨i0, hi, hz0, hz1, hz2⟩ := info_parts Try.infoRowP
  obtain ⟨h0, h1, h2, h3, h4, h5, h6, h7, h8, h9⟩ := hr
  have hw : Region.wanted o (yielded ops a.tmps) = true := by simp [Region.wanted, hgd]
  rw [if_pos hw]
  obtain ⟨v', w', hrun, hown, hgr, _, hloc⟩ := run_append_own_at (P := Try.prog) w B 67 o.type 57 i0 (.agg #[.int .i64 0, .int .i64 0, .int .i64 0, .int .i64 0, .int .i64 0, .int .i64 0, .int .i64 0, .int .i64 0, .int .i64 0, .slice none 0 0]) 10 96 Try.underlying67 hi hz0 hz1 hz2 rfl (by decide) v L.length _ hf ⟨gb, 0, none⟩ 1 c (cellsR (r, .slice ya yn yc)) rfl (by
    intro j u hj
    match j, hj with
    | 0, hj => simp [cellsR] at hj; subst hj; simpa [Addr.add] using h0
    | 1, hj => simp [cellsR] at hj; subst hj; simpa [Addr.add] using h1
    | 2, hj => simp [cellsR] at hj; subst hj; simpa [Addr.add] using h2
    | 3, hj => simp [cellsR] at hj; subst hj; simpa [Addr.add] using h3
    | 4, hj => simp [cellsR] at hj; subst hj; simpa [Addr.add] using h4
    | 5, hj => simp [cellsR] at hj; subst hj; simpa [Addr.add] using h5
    | 6, hj => simp [cellsR] at hj; subst hj; simpa [Addr.add] using h6
    | 7, hj => simp [cellsR] at hj; subst hj; simpa [Addr.add] using h7
    | 8, hj => simp [cellsR] at hj; subst hj; simpa [Addr.add] using h8
    | 9, hj => simp [cellsR] at hj; subst hj; simpa [Addr.add] using h9) (by
    intro u hu
    simp [cellsR] at hu
    rcases hu with rfl | rfl | rfl | rfl | rfl | rfl | rfl | rfl | rfl | rfl <;> rfl) (by unfold maxLen; omega) (by omega) hB
  have hf' : FreshZ B w' v' (L ++ [(r, .slice ya yn yc)]) := by
    unfold FreshZ
    have e : flatC cellsR (L ++ [(r, .slice ya yn yc)]) = flatC cellsR L ++ cellsR (r, .slice ya yn yc) := by simp [flatC]
    rw [e, List.length_append]
    exact hown
  obtain ⟨ao, cap, hv'⟩ := hf'.form
  have e : (L ++ [(r, Value.slice ya yn yc)]).length = m + 1 := by simp [hm]
  rw [e] at hv'
  rw [hv'] at hf' hloc hrun
  have hK := h ao cap w' hf' hgr hloc
  unfold Oper.wp execOp
  simp only [ho, resolve, invoke, builtin, Sem.run_bind, Sem.run_pure, Result.andThen_ok, List.map_toArray, List.map_cons, List.map_nil, hs, hx, hrun]
  exact hK
end Go.Proofs.Ytbffkidkfannhaa

namespace Go.Proofs.Ytbffkidkfannhaa
open Go.RowKit
set_option linter.unusedVariables false

/-- Where list i lies. -/
def ValAt (B : Nat) (T : List (List RowD)) (vs : List Value) (i : Nat) : Prop := ∀ (h : i < T.length), (T[i] = [] ∧ ∃ a, vs[i]? = some (.slice a 0 0)) ∨ (T[i] ≠ [] ∧ vs[i]? = some (.slice (some ⟨B, mAt T i * 10, none⟩) T[i].length T[i].length))
/-- The first K lists have their places, the first J rows of all are written. -/
structure CopS (lo : Nat) (wr : World) (g B : Nat) (T : List (List RowD)) (vs US : List Value) (LS : List (List Int)) (xs : List Value) (K J : Nat) : Prop where
  out : wr.ownsRow 0 67 1 (.slice (some ⟨g, 0, none⟩) T.length T.length) T.length vs
  vl : vs.length = T.length
  big : 0 < mAt T T.length → BoxV wr B xs ∧ mAt T T.length * 10 ≤ xs.length ∧ B < lo ∧ B ≠ g
  glo : g < lo
  row : Rows_ lo wr US LS
  ul : US.length = J
  ll : ∀ i (h : i < T.length) i' (h' : i' < T[i].length), mAt T i + i' < J → LS[mAt T i + i']? = some T[i][i'].l ∧ ∃ u, US[mAt T i + i']? = some u ∧ XRow xs ((mAt T i + i') * 10) T[i][i'] u
  val : ∀ i, i < K → ValAt B T vs i
theorem CopS.on {lo g B K J : Nat} {wr w' : World} {T : List (List RowD)} {vs US : List Value} {LS : List (List Int)} {xs : List Value} (h : CopS lo wr g B T vs US LS xs K J) (e : Ext wr w') : CopS lo w' g B T vs US LS xs K J :=
  ⟨e.ownsRow h.out, h.vl, fun hp => ⟨(h.big hp).1.ext e, (h.big hp).2⟩, h.glo, h.row.ext e, h.ul, h.ll, h.val⟩
theorem mAt_le {T : List (List RowD)} {i : Nat} (h : i ≤ T.length) : mAt T i ≤ mAt T T.length := sumN_le h
theorem mAt_succ {T : List (List RowD)} {i : Nat} (hi : i < T.length) : mAt T (i + 1) = mAt T i + T[i].length := by
  have h1 := sumN_succ (g := lensT T) (k := i) (by rw [lensT_len]; exact hi)
  have h2 : (lensT T)[i]'(by rw [lensT_len]; exact hi) = T[i].length := by simp [lensT]
  unfold mAt
  omega
theorem mAt_all (T : List (List RowD)) : mAt T T.length = (lensC T).sum := by
  unfold mAt lensT lensC sumN
  rw [List.take_of_length_le (by simp)]
theorem grown_stood {lo g : Nat} {w w' : World} (t : w.grownBy w' (some g)) (hg : g < lo) : ∀ u : Value, ∀ e sz n xs, w.ownsRow lo e sz u n xs → w'.ownsRow lo e sz u n xs := fun u e sz n xs h => World.ownsRow.kept h t (by
  cases hu : u.ownBlock with
  | none => exact .inl rfl
  | some b => exact .inr (fun e => by have := (World.ownsRow.lt h b hu).1; have := Option.some.inj e; omega))
theorem Rows_.store {lo g : Nat} {w w' : World} {US : List Value} {LS : List (List Int)} (h : Rows_ lo w US LS) (t : w.grownBy w' (some g)) (hg : g < lo) : Rows_ lo w' US LS :=
  h.touch t (h.low hg)
/-- List K gets its place. -/
theorem CopS.place {lo g B K J : Nat} {wr : World} {T : List (List RowD)} {vs US : List Value} {LS : List (List Int)} {xs : List Value} (h : CopS lo wr g B T vs US LS xs K J) (hK : K < T.length) (v : Value)
    (hv : ValAt B T (vs.set K v) K) : CopS lo (wr.setCell ⟨g, K, none⟩ v) g B T (vs.set K v) US LS xs (K + 1) J := by
  have hst := h.out.stored K v
  refine ⟨hst.1, by rw [List.length_set]; exact h.vl, fun hp => ?_, h.glo, h.row.store hst.2 h.glo, h.ul, h.ll, fun i hi => ?_⟩
  · obtain ⟨b1, b2, b3, b4⟩ := h.big hp
    exact ⟨b1.other _ _ (fun e => b4 e.symm), b2, b3, b4⟩
  · by_cases e : i = K
    · rw [e]; exact hv
    · intro hT
      rw [List.getElem?_set_ne (fun h => e h.symm)]
      exact h.val i (by omega) hT
/-- One more row is written. -/
theorem CopS.write {lo g B K J k j : Nat} {wr w8 : World} {T : List (List RowD)} {vs US : List Value} {LS : List (List Int)} {xs : List Value} {z : Value} (h : CopS lo wr g B T vs US LS xs K J) (e : Ext wr w8) (hl : lo ≤ wr.heap.size) (hk : k < T.length) (hj : j < T[k].length) (hJ : J = mAt T k + j)
    (f : Fresh wr.heap.size w8 z T[k][j].l) : CopS lo (w8.setCells B (J * 10) (rowL T[k][j] z)) g B T vs (US ++ [z]) (LS ++ [T[k][j].l]) (putL xs (J * 10) (rowL T[k][j] z)) K (J + 1) := by
  have hm : mAt T k + T[k].length ≤ mAt T T.length := by rw [← mAt_succ hk]; exact mAt_le (by omega)
  have hp : 0 < mAt T T.length := by omega
  obtain ⟨b1, b2, b3, b4⟩ := h.big hp
  have hg := setCells_grown (g := B) (rowL T[k][j] z) (J * 10) w8
  have hbig : BoxV (w8.setCells B (J * 10) (rowL T[k][j] z)) B (putL xs (J * 10) (rowL T[k][j] z)) := boxV_puts (rowL T[k][j] z) (J * 10) _ _ (b1.ext e) (by
    have : (rowL T[k][j] z).length = 10 := rfl
    omega)
  have hLl : LS.length = J := by rw [← h.row.len]; exact h.ul
  refine ⟨World.ownsRow.kept (e.ownsRow h.out) hg (.inr (fun e' => b4 (Option.some.inj e').symm)), h.vl, fun _ => ⟨hbig, by rw [putL_len]; exact b2, b3, b4⟩, h.glo, (h.row.snoc e f hl).store hg b3, by rw [List.length_append, h.ul]; rfl, fun i hi i' hi' hlt => ?_, h.val⟩
  by_cases e' : mAt T i + i' = J
  · have hik : i = k ∧ i' = j := by
      rcases Nat.lt_trichotomy i k with c | c | c
      · have := mAt_lt (T := T) (j := k) hi c; omega
      · subst c; exact ⟨rfl, by omega⟩
      · have := mAt_lt (T := T) (j := i) hk c; omega
    obtain ⟨rfl, rfl⟩ := hik
    rw [e']
    refine ⟨by rw [List.getElem?_append_right (by omega), hLl, Nat.sub_self]; rfl, z, by rw [List.getElem?_append_right (by rw [h.ul]; omega), h.ul, Nat.sub_self]; rfl, ?_⟩
    exact XRow.put (by omega)
  · obtain ⟨h1, u, h2, h3⟩ := h.ll i hi i' hi' (by omega)
    have hlt1 : mAt T i + i' < LS.length := by omega
    refine ⟨by rw [List.getElem?_append_left hlt1]; exact h1, u, by rw [List.getElem?_append_left (by rw [h.ul]; omega)]; exact h2, ?_⟩
    exact h3.put_other (by omega)
theorem mAt_zero (T : List (List RowD)) : mAt T 0 = 0 := by unfold mAt; exact sumN_zero _
theorem mAt_pos {T : List (List RowD)} {i : Nat} (hi : i < T.length) (hne : T[i] ≠ []) : 0 < mAt T T.length := by
  have h1 := mAt_succ hi
  have h2 := mAt_le (T := T) (show i + 1 ≤ T.length by omega)
  have h3 : 0 < T[i].length := List.length_pos_iff.2 hne
  omega
def winT (B : Nat) (T : List (List RowD)) : WinT := ⟨fun _ => B, fun i => mAt T i * 10, fun i => (T[i]?.getD []).length⟩
/-- All rows are written. -/
theorem CopS.done {lo n0 g B : Nat} {wr : World} {T : List (List RowD)} {vs US : List Value} {LS : List (List Int)} {xs : List Value} (h : CopS lo wr g B T vs US LS xs T.length (mAt T T.length)) (hs : ∀ R ∈ T, R.length ≤ 6) (hg : n0 ≤ g) (hB : 0 < mAt T T.length → n0 ≤ B) (hlo : n0 ≤ lo) :
    TabF (fun b => n0 ≤ b ∧ b < wr.heap.size) g vs US (winT B T) T ∧ ∀ k, TabS wr g vs US LS (winT B T) (fun _ => xs) k 0 T := by
  have hgw : g < wr.heap.size := (World.ownsRow.lt h.out g rfl).2
  have hfr : ∀ (i : Nat) (u : Value) (b : Nat), US[i]? = some u → u.ownBlock = some b → lo ≤ b ∧ b < wr.heap.size := fun i u b hu hb => by
    have hi : i < US.length := (List.getElem?_eq_some_iff.1 hu).1
    have hf := h.row.row i u _ hu (List.getElem?_eq_getElem (by rw [← h.row.len]; exact hi))
    exact World.ownsRow.lt hf b hb
  have hout : BoxV wr g vs := ⟨fun j v hj => (h.out.cellAt j (by have := (List.getElem?_eq_some_iff.1 hj).1; have := h.vl; omega)).trans hj, fun j _ => h.out.frozenAt j, hgw⟩
  refine ⟨⟨fun i hi => ?_, fun i j hi hj h1 h2 hij => .inr ?_, fun i u hu => ⟨fun j hj hne => ?_, ?_⟩, fun i hi hne => ?_, ⟨⟨hg, hgw⟩, fun i hi hne => ?_, fun i u b hu hb => ?_⟩⟩, fun k => ⟨hout, h.row.more (Nat.zero_le _), fun j hj hne => ?_, fun j hj hj0 => by omega, fun j hj _ j' hj' => ?_⟩⟩
  · rcases h.val i hi hi with ⟨e, a, ha⟩ | ⟨e, ha⟩
    · exact .inl ⟨e, a, 0, ha, Nat.zero_le _, fun _ => rfl⟩
    · have h6 := hs _ (List.getElem_mem hi)
      have ec : (winT B T).c i = T[i].length := by unfold winT; simp [List.getElem?_eq_getElem hi]
      refine .inr ⟨e, ?_, by rw [ec]; exact Nat.le_refl _, by rw [ec]; unfold maxLen; omega⟩
      rw [ec]
      exact ha
  · show mAt T i * 10 + T[i].length * 10 ≤ mAt T j * 10 ∨ mAt T j * 10 + T[j].length * 10 ≤ mAt T i * 10
    rcases Nat.lt_or_gt_of_ne hij with e | e
    · have := mAt_lt (T := T) (j := j) hi e; omega
    · have := mAt_lt (T := T) (j := i) hj e; omega
  · have hb := h.big (mAt_pos hj hne)
    cases hu' : u.ownBlock with
    | none => exact .inl rfl
    | some b => exact .inr (fun e => by have := (hfr i u b hu hu').1; have e2 : b = B := Option.some.inj e; omega)
  · have := h.glo
    cases hu' : u.ownBlock with
    | none => exact .inl rfl
    | some b => exact .inr (fun e => by have := (hfr i u b hu hu').1; have e2 : b = g := Option.some.inj e; omega)
  · exact (h.big (mAt_pos hi hne)).2.2.2
  · exact ⟨hB (mAt_pos hi hne), (h.big (mAt_pos hi hne)).1.lt⟩
  · have := hfr i u b hu hb; omega
  · obtain ⟨b1, b2, _⟩ := h.big (mAt_pos hj hne)
    refine ⟨b1, ?_⟩
    have h1 := mAt_succ hj
    have h2 := mAt_le (T := T) (show j + 1 ≤ T.length by omega)
    show mAt T j * 10 + T[j].length * 10 ≤ xs.length
    omega
  · have h1 := mAt_succ hj
    have h2 := mAt_le (T := T) (show j + 1 ≤ T.length by omega)
    obtain ⟨e1, u, e2, e3⟩ := h.ll j hj j' hj' (by omega)
    refine ⟨u, e2, e1, ?_⟩
    have e : (mAt T j + j') * 10 = mAt T j * 10 + j' * 10 := by omega
    rw [e] at e3
    exact e3
theorem boxV_ten {w : World} {b o : Nat} {xs : List Value} (h : BoxV w b xs) (ho : o + 10 ≤ xs.length) : ∃ v0 v1 v2 v3 v4 v5 v6 v7 v8 v9 : Value, w.cell? ⟨b, o, none⟩ = some v0 ∧ w.cell? ⟨b, o + 1, none⟩ = some v1 ∧ w.cell? ⟨b, o + 2, none⟩ = some v2 ∧ w.cell? ⟨b, o + 3, none⟩ = some v3 ∧ w.cell? ⟨b, o + 4, none⟩ = some v4 ∧ w.cell? ⟨b, o + 5, none⟩ = some v5 ∧ w.cell? ⟨b, o + 6, none⟩ = some v6 ∧ w.cell? ⟨b, o + 7, none⟩ = some v7 ∧ w.cell? ⟨b, o + 8, none⟩ = some v8 ∧ w.cell? ⟨b, o + 9, none⟩ = some v9 := by
  have f : ∀ q (hq : q < 10), w.cell? ⟨b, o + q, none⟩ = some (xs[o + q]'(by omega)) := fun q hq => h.cell _ _ (List.getElem?_eq_getElem (by omega))
  exact ⟨_, _, _, _, _, _, _, _, _, _, f 0 (by omega), f 1 (by omega), f 2 (by omega), f 3 (by omega), f 4 (by omega), f 5 (by omega), f 6 (by omega), f 7 (by omega), f 8 (by omega), f 9 (by omega)⟩
end Go.Proofs.Ytbffkidkfannhaa

namespace Go.Proofs.Ytbffkidkfannhaa
open Go.RowKit
set_option linter.unusedVariables false

theorem tab_res (w : World) (n : Int) (u : Value) (T T' : TypeId) :
    AttrAt ((w.alloc (.cells #[.int .i64 n, u] T)).alloc (.cells #[.int .i64 0, .int .i64 0, .int .i64 0, .int .i64 0, .int .i64 0, .int .i64 0, .int .i64 0, .int .i64 0, .int .i64 0, .slice none 0 0] T')) w.heap.size n u ∧
    RowAt ((w.alloc (.cells #[.int .i64 n, u] T)).alloc (.cells #[.int .i64 0, .int .i64 0, .int .i64 0, .int .i64 0, .int .i64 0, .int .i64 0, .int .i64 0, .int .i64 0, .int .i64 0, .slice none 0 0] T')) (w.heap.size + 1) ⟨0, 0, 0, 0, 0, 0, 0, 0, 0, []⟩ (.slice none 0 0) ∧
      FreeAt ((w.alloc (.cells #[.int .i64 n, u] T)).alloc (.cells #[.int .i64 0, .int .i64 0, .int .i64 0, .int .i64 0, .int .i64 0, .int .i64 0, .int .i64 0, .int .i64 0, .int .i64 0, .slice none 0 0] T')) (w.heap.size + 1) := by
  refine ⟨⟨?_, ?_⟩, ⟨?_, ?_, ?_, ?_, ?_, ?_, ?_, ?_, ?_, ?_⟩, ⟨?_, ?_, ?_, ?_, ?_, ?_, ?_, ?_, ?_, ?_⟩⟩ <;> go_simp

end Go.Proofs.Ytbffkidkfannhaa

namespace Go.Proofs.Ytbffkidkfannhaa
open Go.RowKit
set_option linter.unusedVariables false

def okAt (n : Int) (T : List (List RowD)) (rep no : Int) : Bool := goodTab n T && instB n rep no
/-- What RowAt tells. -/
def rowAtR (n : Int) (T : List (List RowD)) (rep no : Int) : RowD := if okAt n T rep no then rowOf n T rep.toNat (no - 1).toNat else zeroR
theorem rowAtR_no {n : Int} {T : List (List RowD)} {rep no : Int} (h : okAt n T rep no = false) : rowAtR n T rep no = zeroR := by unfold rowAtR; rw [h]; rfl
theorem rowAtR_yes {n : Int} {T : List (List RowD)} {p q : Nat} (h : okAt n T (p : Int) ((q : Int) + 1) = true) : rowAtR n T (p : Int) ((q : Int) + 1) = rowOf n T p q := by
  unfold rowAtR; rw [h]

  simp
theorem okAt_of {n : Int} {T : List (List RowD)} {rep no : Int} (h : okAt n T rep no = true) : goodTab n T = true ∧ instB n rep no = true := by
  unfold okAt at h; simpa using h
theorem rowOf_len {n : Int} {T : List (List RowD)} {p q : Nat} (h : goodTab n T = true) (hp : p < T.length) : (rowOf n T p q).l.length ≤ 5 := by
  by_cases hq : q < T[p].length
  · rw [rowOf_in hp hq]; exact (goodTab_row h hp hq).2.2
  · rw [rowOf_out hp (by omega)]; exact noneL_len n
theorem rowAtR_len (n : Int) (T : List (List RowD)) (rep no : Int) : (rowAtR n T rep no).l.length ≤ 5 := by
  cases h : okAt n T rep no with
  | false => rw [rowAtR_no h]; simp [zeroR]
  | true =>
    obtain ⟨h1, h2⟩ := okAt_of h
    obtain ⟨p, q, rfl, rfl, hp, _⟩ := inst_nat h1 h2
    rw [rowAtR_yes h]
    exact rowOf_len h1 hp

end Go.Proofs.Ytbffkidkfannhaa

namespace Go.Proofs.Ytbffkidkfannhaa
open Go.RowKit
set_option linter.unusedVariables false

theorem make_m (m : Nat) (h : m = 3 ∨ m = 5) (W : World) : (Instr.makeSlice 44 (.int .i64 (m : Int)) (.int .i64 (m : Int))).run Try.prog W = .ok (.slice (some ⟨W.heap.size, 0, none⟩) m m) (W.alloc (.cells (Array.replicate m (Value.int .i64 0)) 3)) := by
  rcases h with rfl | rfl
  · exact make_3 W
  · exact make_5 W

theorem splice_all (m : Nat) (l : List Int) (h : l.length = m) : splice (List.replicate m (Value.int .i64 0)) 0 (l.map (Value.int .i64)) = l.map (Value.int .i64) := by
  subst h
  simp [splice]

set_option maxRecDepth 100000 in
set_option maxHeartbeats 2000000 in
theorem copyRow_nat (m : Nat) (hm : m = 3 ∨ m = 5) (r : RowD) (u : Value) (w : World) (hv : Ints w u r.l) (hl : r.l.length = m) :
    Calls Try.prog 80 #[.int .i64 m, .agg #[.int .i64 r.b, .int .i64 r.v, .int .i64 r.st, .int .i64 r.k, .int .i64 r.i, .int .i64 r.f, .int .i64 r.t, .int .i64 r.a, .int .i64 r.s, u]] w (NewRow r w) := by
  obtain ⟨au, cu, rfl, hlu, hcap, hcu⟩ := hv
  obtain ⟨wc, hwc⟩ : ∃ wc, wc = (((w.alloc (.cells #[.int .i64 r.b, .int .i64 r.v, .int .i64 r.st, .int .i64 r.k, .int .i64 r.i, .int .i64 r.f, .int .i64 r.t, .int .i64 r.a, .int .i64 r.s, .slice au r.l.length cu] 57)).alloc (.cells #[.int .i64 0, .int .i64 0, .int .i64 0, .int .i64 0, .int .i64 0, .int .i64 0, .int .i64 0, .int .i64 0, .int .i64 0, .slice none 0 0] 57)).alloc (.cells (Array.replicate m (Value.int .i64 0)) 3)) := ⟨_, rfl⟩
  have ho := box_res_row w r (.slice au r.l.length cu) 57
  have xb : Ext w wc := by rw [hwc]; exact Ext.alloc3 _ _ _ _
  have hmk := make_m m hm
  have HWC := Lib.hid hwc
  have HO := Lib.hid ho
  have HCU := Lib.hid hcu
  have HL := Lib.hid hl
  have hsz : ((w.alloc (.cells #[.int .i64 r.b, .int .i64 r.v, .int .i64 r.st, .int .i64 r.k, .int .i64 r.i, .int .i64 r.f, .int .i64 r.t, .int .i64 r.a, .int .i64 r.s, .slice au r.l.length cu] 57)).alloc (.cells #[.int .i64 0, .int .i64 0, .int .i64 0, .int .i64 0, .int .i64 0, .int .i64 0, .int .i64 0, .int .i64 0, .int .i64 0, .slice none 0 0] 57)).heap.size = w.heap.size + 2 := by simp
  have HZ := Lib.hid hsz
  have hlen0 : (r.l.length : Int) ≤ 5 := by omega
  have hcap1 : r.l.length ≤ cu := hcap.1
  clear hwc ho hcu hl hlu hcap hsz
  go_enter Try.func80, Try.ntmps80
  go_wp2_with (with_reducible refine wpList_copy_splice rfl _ _ 44 44 rfl 3 Try.underlying44 rfl _ _ m m r.l.length cu rfl rfl (w.heap.size + 2) 0 (List.replicate m (Value.int .i64 0)) 3 ?c1 (r.l.map (Value.int .i64)) ?c2 ?c3 ?c4 ?c5 (w.heap.size + 2) wc ?c6 (Nat.le_refl _) ?_)
  case c1 =>
    have h := heap_alloc_new ((w.alloc (.cells #[.int .i64 r.b, .int .i64 r.v, .int .i64 r.st, .int .i64 r.k, .int .i64 r.i, .int .i64 r.f, .int .i64 r.t, .int .i64 r.a, .int .i64 r.s, .slice au r.l.length cu] 57)).alloc (.cells #[.int .i64 0, .int .i64 0, .int .i64 0, .int .i64 0, .int .i64 0, .int .i64 0, .int .i64 0, .int .i64 0, .int .i64 0, .slice none 0 0] 57)) (.cells (Array.replicate m (Value.int .i64 0)) 3)
    rw [HZ.out] at h
    rw [h]
    simp
  case c2 =>
    rw [List.length_map, HL.out]
    exact (Nat.min_self m).symm
  case c3 =>
    intro hp
    have hp' : 0 < r.l.length := by simpa using hp
    obtain ⟨b, off, rfl, hc⟩ := HCU.out hp'
    refine ⟨_, rfl, fun j z hj => ?_⟩
    have hj5 : j < r.l.length := (List.getElem?_eq_some_iff.1 hj).1
    have hx := xb.cell (hc j hj5)
    rw [HWC.out] at hx
    rw [show (⟨b, off, none⟩ : Addr).add j = ⟨b, off + j, none⟩ by simp [Addr.add], hx, hj]
    rfl
  case c4 =>
    rw [List.length_map, List.length_replicate, HL.out]; omega
  case c5 =>
    intro z hz
    obtain ⟨q, _, rfl⟩ := List.mem_map.1 hz
    rfl
  case c6 => rw [HWC.out]; exact Below.refl _ _
  intro w' HG hb
  have hg := HG.out
  rw [splice_all m r.l HL.out] at hg
  have hso : w.heap.size + 2 ≤ wc.heap.size := by rw [HWC.out]; simp
  have x2 : Ext w w' := Below.trans xb (Below.mono hb (by omega))
  have hfr : Fresh (w.heap.size + 2) w' (.slice (some ⟨w.heap.size + 2, 0, none⟩) m m) r.l := by
    refine ⟨by simp, .inr ⟨w.heap.size + 2, m, (r.l.map (Value.int .i64)).toArray, by rw [HL.out], Nat.le_refl _, hg, by rw [HL.out]; exact Nat.le_refl _, by unfold maxLen; omega, by simp [HL.out], by simp [← List.map_take]⟩⟩
  have hlow : ∀ b o, b < w.heap.size + 2 → w'.cell? ⟨b, o, none⟩ = wc.cell? ⟨b, o, none⟩ := fun b o hbo => hb.cell (p := ⟨b, o, none⟩) hbo
  have hfro : ∀ b o, b < w.heap.size + 2 → w'.frozen? ⟨b, o, none⟩ = wc.frozen? ⟨b, o, none⟩ := fun b o hbo => hb.frozen (p := ⟨b, o, none⟩) hbo
  have xo : Ext ((w.alloc (.cells #[.int .i64 r.b, .int .i64 r.v, .int .i64 r.st, .int .i64 r.k, .int .i64 r.i, .int .i64 r.f, .int .i64 r.t, .int .i64 r.a, .int .i64 r.s, .slice au r.l.length cu] 57)).alloc (.cells #[.int .i64 0, .int .i64 0, .int .i64 0, .int .i64 0, .int .i64 0, .int .i64 0, .int .i64 0, .int .i64 0, .int .i64 0, .slice none 0 0] 57)) wc := by rw [HWC.out]; exact Ext.alloc1 ((w.alloc (.cells #[.int .i64 r.b, .int .i64 r.v, .int .i64 r.st, .int .i64 r.k, .int .i64 r.i, .int .i64 r.f, .int .i64 r.t, .int .i64 r.a, .int .i64 r.s, .slice au r.l.length cu] 57)).alloc (.cells #[.int .i64 0, .int .i64 0, .int .i64 0, .int .i64 0, .int .i64 0, .int .i64 0, .int .i64 0, .int .i64 0, .int .i64 0, .slice none 0 0] 57)) (.cells (Array.replicate m (Value.int .i64 0)) 3)
  obtain ⟨p0, p1, p2, p3, p4, p5, p6, p7, p8, p9⟩ := HO.out.1.1.ext xo
  obtain ⟨y0, y1, y2, y3, y4, y5, y6, y7, y8, y9⟩ := HO.out.1.2.ext (by rw [HZ.out]; omega) xo
  obtain ⟨o0, o1, o2, o3, o4, o5, o6, o7, o8, o9⟩ := HO.out.2.1.ext xo
  obtain ⟨z0, z1, z2, z3, z4, z5, z6, z7, z8, z9⟩ := HO.out.2.2.ext (by rw [HZ.out]; omega) xo
  have l0 : w.heap.size < w.heap.size + 2 := by omega
  have l1 : w.heap.size + 1 < w.heap.size + 2 := by omega
  rw [← hlow _ _ l0] at p0 p1 p2 p3 p4 p5 p6 p7 p8 p9
  rw [← hfro _ _ l0] at y0 y1 y2 y3 y4 y5 y6 y7 y8 y9
  rw [← hlow _ _ l1] at o0 o1 o2 o3 o4 o5 o6 o7 o8 o9
  rw [← hfro _ _ l1] at z0 z1 z2 z3 z4 z5 z6 z7 z8 z9
  have F := Lib.hid hfr
  clear hlow hfro hg HG hb l0 l1 hfr xo hso hmk hlen0 hcap1
  go_wp2
  refine bodyPost_ret (v := .agg #[.int .i64 r.b, .int .i64 r.v, .int .i64 r.st, .int .i64 r.k, .int .i64 r.i, .int .i64 r.f, .int .i64 r.t, .int .i64 r.a, .int .i64 r.s, .slice (some ⟨w.heap.size + 2, 0, none⟩) m m]) (by simp [results, Try.results80, go_sem, o0, o1, o2, o3, o4, o5, o6, o7, o8, o9]) rfl ⟨_, rfl, ?_, ?_⟩
  · exact (((((((((((F.out.set _ _ _ (by omega)).set _ _ _ (by omega)).set _ _ _ (by omega)).set _ _ _ (by omega)).set _ _ _ (by omega)).set _ _ _ (by omega)).set _ _ _ (by omega)).set _ _ _ (by omega)).set _ _ _ (by omega)).set _ _ _ (by omega)).set _ _ _ (by omega)).more (by omega)
  · exact (((((((((((x2.setc (by dsimp only; omega)).setc (by dsimp only; omega)).setc (by dsimp only; omega)).setc (by dsimp only; omega)).setc (by dsimp only; omega)).setc (by dsimp only; omega)).setc (by dsimp only; omega)).setc (by dsimp only; omega)).setc (by dsimp only; omega)).setc (by dsimp only; omega)).setc (by dsimp only; omega))

theorem copyRow_any (n : Int) (r : RowD) (u : Value) (w : World) (hn : isGrp n = true) (hv : Ints w u r.l) (hl : (r.l.length : Int) = n) :
    Calls Try.prog 80 #[.int .i64 n, .agg #[.int .i64 r.b, .int .i64 r.v, .int .i64 r.st, .int .i64 r.k, .int .i64 r.i, .int .i64 r.f, .int .i64 r.t, .int .i64 r.a, .int .i64 r.s, u]] w (NewRow r w) := by
  obtain ⟨m, rfl, hm⟩ := nat_of_grp hn
  exact copyRow_nat m hm r u w hv (by omega)

theorem res_row (w : World) (T : TypeId) : RowAt (w.alloc (.cells #[.int .i64 0, .int .i64 0, .int .i64 0, .int .i64 0, .int .i64 0, .int .i64 0, .int .i64 0, .int .i64 0, .int .i64 0, .slice none 0 0] T)) w.heap.size ⟨0, 0, 0, 0, 0, 0, 0, 0, 0, []⟩ (.slice none 0 0) ∧
    FreeAt (w.alloc (.cells #[.int .i64 0, .int .i64 0, .int .i64 0, .int .i64 0, .int .i64 0, .int .i64 0, .int .i64 0, .int .i64 0, .int .i64 0, .slice none 0 0] T)) w.heap.size := by
  refine ⟨⟨?_, ?_, ?_, ?_, ?_, ?_, ?_, ?_, ?_, ?_⟩, ⟨?_, ?_, ?_, ?_, ?_, ?_, ?_, ?_, ?_, ?_⟩⟩ <;> go_simp

set_option maxRecDepth 100000 in
set_option maxHeartbeats 2000000 in
theorem emptyRow_any (n : Int) (w : World) (hn : isGrp n = true) :
    Calls Try.prog 91 #[.int .i64 n] w (NewRow (emptyR n) w) := by
  obtain ⟨L, hL⟩ : ∃ L, L = noneL n := ⟨_, rfl⟩
  have hc := fun W => joinNone_any n W hn
  have hLE : emptyR n = ⟨0, 0, 0, 0, 0, 0, 0, 0, 0, L⟩ := by rw [hL]; rfl
  rw [← hL] at hc
  rw [hLE]
  have HC := Lib.hid hc
  have HO := Lib.hid (res_row w 57)
  clear hL hc hLE hn
  go_enter Try.func91, Try.ntmps91
  go_wp2_with fail
  refine (HC.out _).mono ?_
  rintro e w1 ⟨v, rfl, f1, x1⟩
  have hx := (Ext.alloc1 w _).trans x1
  obtain ⟨o0, o1, o2, o3, o4, o5, o6, o7, o8, o9⟩ := HO.out.1.ext x1
  obtain ⟨z0, z1, z2, z3, z4, z5, z6, z7, z8, z9⟩ := HO.out.2.ext (by simp) x1
  obtain ⟨ay, cy, rfl⟩ := f1.form
  rw [World.size_alloc] at f1
  have F := Lib.hid f1
  clear f1 x1
  go_wp2
  refine bodyPost_ret (v := .agg #[.int .i64 0, .int .i64 0, .int .i64 0, .int .i64 0, .int .i64 0, .int .i64 0, .int .i64 0, .int .i64 0, .int .i64 0, .slice ay L.length cy]) (by simp [results, Try.results91, go_sem, o0, o1, o2, o3, o4, o5, o6, o7, o8, o9]) rfl ⟨_, rfl, ?_, ?_⟩
  · exact ((((((((((F.out.set _ _ _ (by omega)).set _ _ _ (by omega)).set _ _ _ (by omega)).set _ _ _ (by omega)).set _ _ _ (by omega)).set _ _ _ (by omega)).set _ _ _ (by omega)).set _ _ _ (by omega)).set _ _ _ (by omega)).set _ _ _ (by omega)).more (by omega)
  · exact ((((((((((hx.setc (Nat.le_refl _)).setc (Nat.le_refl _)).setc (Nat.le_refl _)).setc (Nat.le_refl _)).setc (Nat.le_refl _)).setc (Nat.le_refl _)).setc (Nat.le_refl _)).setc (Nat.le_refl _)).setc (Nat.le_refl _)).setc (Nat.le_refl _))

end Go.Proofs.Ytbffkidkfannhaa

namespace Go.Proofs.Ytbffkidkfannhaa
open Go.RowKit
set_option linter.unusedVariables false

theorem makeT_3 (W : World) : (Instr.makeSlice 30 (.int .i64 3) (.int .i64 3)).run Try.prog W = .ok (.slice (some ⟨W.heap.size, 0, none⟩) 3 3) (W.alloc (.cells #[.slice none 0 0, .slice none 0 0, .slice none 0 0] 67)) := by kernel_rfl
theorem makeT_5 (W : World) : (Instr.makeSlice 30 (.int .i64 5) (.int .i64 5)).run Try.prog W = .ok (.slice (some ⟨W.heap.size, 0, none⟩) 5 5) (W.alloc (.cells #[.slice none 0 0, .slice none 0 0, .slice none 0 0, .slice none 0 0, .slice none 0 0] 67)) := by kernel_rfl
theorem makeT_m (m : Nat) (h : m = 3 ∨ m = 5) (W : World) : (Instr.makeSlice 30 (.int .i64 (m : Int)) (.int .i64 (m : Int))).run Try.prog W = .ok (.slice (some ⟨W.heap.size, 0, none⟩) m m) (W.alloc (.cells (Array.replicate m (.slice none 0 0)) 67)) := by
  rcases h with rfl | rfl
  · exact makeT_3 W
  · exact makeT_5 W
theorem FreshI.nil (lo hi : Nat) (w : World) : FreshI lo hi w (.slice none 0 0) [] :=
  ⟨[], [], World.ownsRow_nil _ _ _ _, Cells.nil _, Rows_.nil _ _, fun _ _ h => by simp at h, fun b h => by simp [Value.ownBlock] at h, fun _ _ h => by simp at h⟩
theorem fresh_nils (m : Nat) (hm : m ≤ 5) (w : World) (lo : Nat) (hlo : lo ≤ w.heap.size) : FreshT lo (w.heap.size + 1) (w.alloc (.cells (Array.replicate m (.slice none 0 0)) 67)) (.slice (some ⟨w.heap.size, 0, none⟩) m m) (List.replicate m []) := by
  have h := World.ownsRow_lit (e := 67) (size := 1) (base := lo) w (Array.replicate m (.slice none 0 0)) m hlo (by unfold maxLen; omega) (by simp)
  refine ⟨_, fun _ => w.heap.size + 1, by rw [List.length_replicate]; exact h, fun b e => ?_, fun _ _ => Nat.le_refl _, (show lo ≤ w.heap.size + 1 by omega), Nat.le_refl _, fun j hj hj' => ?_⟩
  · have := Option.some.inj e
    simp at this
    show b < w.heap.size + 1
    omega
  · have e1 : (Array.replicate m (Value.slice none 0 0)).toList[j]'hj' = .slice none 0 0 := by simp
    rw [e1, List.getElem_replicate]
    exact FreshI.nil _ _ _

/-- The table that comes back. -/
def newN (n : Int) : Int := if isGrp n then n else 0
def newT (n : Int) : List (List RowD) := if isGrp n then List.replicate n.toNat [] else []
def TwoTab (m : Int) (T : List (List RowD)) (b : Bool) (w : World) (e : Ending) (w' : World) : Prop := ∃ v hi, e = .returned (.tuple #[.agg #[.int .i64 m, v], .bool b]) ∧ FreshT w.heap.size hi w' v T ∧ Ext w w'
theorem new_no {n : Int} (h : isGrp n = false) : newN n = 0 ∧ newT n = [] := by unfold newN newT; rw [h]; exact ⟨rfl, rfl⟩
theorem new_yes {m : Nat} (h : isGrp (m : Int) = true) : newN (m : Int) = m ∧ newT (m : Int) = List.replicate m [] := by unfold newN newT; rw [h]; simp
theorem newT_nil (n : Int) : ∀ R ∈ newT n, R = [] := by
  unfold newT
  split
  · intro R hR; exact (List.mem_replicate.1 hR).2
  · intro R hR; cases hR

/-- A table comes back. -/
def OneTab (m : Int) (T : List (List RowD)) (w : World) (e : Ending) (w' : World) : Prop := ∃ v hi, e = .returned (.agg #[.int .i64 m, v]) ∧ FreshT w.heap.size hi w' v T ∧ Ext w w'
theorem fresh_nils1 (m : Nat) (hm : m ≤ 5) (w : World) (o : Obj) : FreshT w.heap.size (w.heap.size + 2) ((w.alloc o).alloc (.cells (Array.replicate m (.slice none 0 0)) 67)) (.slice (some ⟨w.heap.size + 1, 0, none⟩) m m) (List.replicate m []) := by
  have sz : (w.alloc o).heap.size = w.heap.size + 1 := by simp
  have hr := fresh_nils m hm (w.alloc o) w.heap.size (by omega)
  rw [sz] at hr
  exact hr
theorem FreshT.nil (lo : Nat) (w : World) : FreshT lo lo w (.slice none 0 0) [] :=
  ⟨[], fun _ => lo, World.ownsRow_nil _ _ _ _, fun b h => by simp [Value.ownBlock] at h, fun _ _ => Nat.le_refl _, Nat.le_refl _, Nat.le_refl _, fun j h _ => by simp at h⟩
theorem FreshT.set {lo hi : Nat} {w : World} {v : Value} {T : List (List RowD)} (h : FreshT lo hi w v T) (b o : Nat) (x : Value) (hb : b < lo) : FreshT lo hi (w.setCell ⟨b, o, none⟩ x) v T :=
  h.kept ⟨by simp, fun q q1 _ => Below.heap_setCell _ _ _ q (by dsimp only; omega)⟩

set_option maxHeartbeats 1000000 in
theorem l4New_nat (m : Nat) (hm : m = 3 ∨ m = 5) (w : World) :
    Calls Try.prog 77 #[.int .i64 m] w (OneTab m (List.replicate m []) w) := by
  have hmk := makeT_m m hm
  have HM := Lib.hid hm
  clear hm
  go_enter Try.func77, Try.ntmps77
  go_wp2
  refine bodyPost_ret (v := .agg #[.int .i64 m, .slice (some ⟨w.heap.size + 1, 0, none⟩) m m]) (by simp [results, Try.results77, go_sem]) rfl ⟨_, w.heap.size + 2, rfl, ?_, ?_⟩
  · exact fresh_nils1 m (by have := HM.out; omega) _ _
  · exact ((Ext.refl w).alloc _).alloc _

set_option maxHeartbeats 400000 in
theorem markRowS_nil (v : Value) (k : Int) (w : World) (hv : Rowz w v []) :
    Calls Try.prog 82 #[v, .int .i64 k] w (IntExt k w) := by
  obtain ⟨av, cv, rfl, _, _, _⟩ := hv
  go_enter Try.func82, Try.ntmps82
  go_wp2
  refine wp_loop_rounds 1 ?_; rw [rounds_succ]
  go_wp2
  go_ret
  exact ⟨rfl, Ext.refl _⟩
set_option maxHeartbeats 400000 in
theorem heldRowS_nil (v : Value) (k : Int) (w : World) (hv : Rowz w v []) :
    Calls Try.prog 84 #[v, .int .i64 k] w (IntExt k w) := by
  obtain ⟨av, cv, rfl, _, _, _⟩ := hv
  go_enter Try.func84, Try.ntmps84
  go_wp2
  refine wp_loop_rounds 1 ?_; rw [rounds_succ]
  go_wp2
  go_ret
  exact ⟨rfl, Ext.refl _⟩

set_option maxHeartbeats 1000000 in
theorem markRowSS_nil (v : Value) (T : List (List RowD)) (k : Int) (w : World) (hv : Rowzz w v T) (hT : ∀ R ∈ T, R = []) :
    Calls Try.prog 54 #[v, .int .i64 k] w (IntExt k w) := by
  obtain ⟨av, cv, rfl, hlv, _, hcv⟩ := hv
  unfold maxLen at hlv
  have HT := Lib.hid hT
  clear hT
  go_enter Try.func54, Try.ntmps54
  go_wp2
  go_loopw [1, 5] (fun m i wr => ∃ j : Nat, j ≤ T.length ∧ i = .int .i64 j ∧ m = .int .i64 k ∧ Ext w wr) (fun _ i _ => T.length - (intOf i).toNat)
  case atStart => exact ⟨0, Nat.zero_le _, rfl, rfl, Ext.refl _⟩
  case round =>
    obtain ⟨j, hj, rfl, rfl, hx⟩ := hrel
    by_cases hlt : j < T.length
    · obtain ⟨b, off, rfl, dv⟩ := hcv (by omega)
      obtain ⟨u, hu, iu⟩ := dv j hlt
      rw [HT.out _ (List.getElem_mem hlt)] at iu
      have c0 := hx.cell hu
      have IU := Lib.hid (iu.ext hx)
      clear hcv dv hu iu
      go_wp2_with fail
      refine (markRowS_nil _ _ _ IU.out).mono ?_
      rintro e w2 ⟨rfl, x2⟩
      have hx2 := hx.trans x2
      clear x2 hx c0
      go_wp2
      go_roundw
      case rel => exact ⟨j + 1, by omega, by go_num, rfl, hx2⟩
      case measure => simp [intOf]; omega
    · obtain rfl : j = T.length := by omega
      go_wp2
      go_ret
      exact ⟨rfl, hx⟩

set_option maxHeartbeats 1000000 in
theorem heldRowSS_nil (v : Value) (T : List (List RowD)) (k : Int) (w : World) (hv : Rowzz w v T) (hT : ∀ R ∈ T, R = []) (h0 : 0 ≤ k) :
    Calls Try.prog 56 #[v, .int .i64 k] w (IntExt k w) := by
  obtain ⟨av, cv, rfl, hlv, _, hcv⟩ := hv
  unfold maxLen at hlv
  have HT := Lib.hid hT
  clear hT
  go_enter Try.func56, Try.ntmps56
  go_wp2
  go_loopw [1, 5] (fun m i wr => ∃ j : Nat, j ≤ T.length ∧ i = .int .i64 j ∧ m = .int .i64 k ∧ Ext w wr) (fun _ i _ => T.length - (intOf i).toNat)
  case atStart => exact ⟨0, Nat.zero_le _, rfl, rfl, Ext.refl _⟩
  case round =>
    obtain ⟨j, hj, rfl, rfl, hx⟩ := hrel
    by_cases hlt : j < T.length
    · obtain ⟨b, off, rfl, dv⟩ := hcv (by omega)
      obtain ⟨u, hu, iu⟩ := dv j hlt
      rw [HT.out _ (List.getElem_mem hlt)] at iu
      have c0 := hx.cell hu
      have IU := Lib.hid (iu.ext hx)
      clear hcv dv hu iu
      go_wp2_with fail
      refine (heldRowS_nil _ _ _ IU.out).mono ?_
      rintro e w2 ⟨rfl, x2⟩
      have hx2 := hx.trans x2
      clear x2 hx c0
      go_wp2
      go_roundw
      case rel => exact ⟨j + 1, by omega, by go_num, rfl, hx2⟩
      case measure => simp [intOf]; omega
    · obtain rfl : j = T.length := by omega
      go_wp2
      go_ret
      exact ⟨rfl, hx⟩

set_option maxHeartbeats 1000000 in
theorem markTable_nil (n : Int) (v : Value) (T : List (List RowD)) (k : Int) (w : World) (hv : Rowzz w v T) (hT : ∀ R ∈ T, R = []) :
    Calls Try.prog 23 #[.agg #[.int .i64 n, v], .int .i64 k] w (IntExt k w) := by
  have HT := Lib.hid hT
  clear hT
  go_enter Try.func23, Try.ntmps23
  go_wp2_with fail
  refine (markRowSS_nil _ T _ _ (hv.ext (Ext.alloc (Ext.refl _) _)) HT.out).mono ?_
  rintro e w1 ⟨rfl, x1⟩
  have hx := (Ext.alloc (Ext.refl w) _).trans x1
  clear x1
  go_wp2
  go_ret
  exact ⟨rfl, hx⟩

set_option maxHeartbeats 1000000 in
theorem heldTable_nil (n : Int) (v : Value) (T : List (List RowD)) (k : Int) (w : World) (hv : Rowzz w v T) (hT : ∀ R ∈ T, R = []) (h0 : 0 ≤ k) :
    Calls Try.prog 25 #[.agg #[.int .i64 n, v], .int .i64 k] w (IntExt k w) := by
  have HT := Lib.hid hT
  clear hT
  go_enter Try.func25, Try.ntmps25
  go_wp2_with fail
  refine (heldRowSS_nil _ T _ _ (hv.ext (Ext.alloc (Ext.refl _) _)) HT.out h0).mono ?_
  rintro e w1 ⟨rfl, x1⟩
  have hx := (Ext.alloc (Ext.refl w) _).trans x1
  clear x1
  go_wp2
  go_ret
  exact ⟨rfl, hx⟩

end Go.Proofs.Ytbffkidkfannhaa

namespace Go.Proofs.Ytbffkidkfannhaa
open Go.RowKit
set_option linter.unusedVariables false

theorem markRowS_empty (a : Option Addr) (c : Nat) (k : Int) (w : World) : Calls Try.prog 82 #[.slice a 0 c, .int .i64 k] w (fun e w' => e = .returned (.int .i64 k) ∧ w' = w) := by
  go_enter Try.func82, Try.ntmps82
  go_wp2
  refine wp_loop_rounds 1 ?_; rw [rounds_succ]
  go_wp2
  go_ret
  exact ⟨rfl, rfl⟩
set_option maxHeartbeats 4000000 in
set_option maxRecDepth 100000 in
theorem markTabW_any (P : Nat → Prop) (g0 cap : Nat) (vs US : List Value) (LS : List (List Int)) (q : WinT) (XS : Nat → List Value) (T : List (List RowD)) (k : Int) (w : World) (hf : TabF P g0 vs US q T) (hs : TabS w g0 vs US LS q XS k 0 T) (h0 : 0 ≤ k) (hk : k ≤ 1073741824) (h1 : bulkT T ≤ 10995116277) :
    Calls Try.prog 54 #[.slice (some ⟨g0, 0, none⟩) T.length cap, .int .i64 k] w (fun e w' => e = .returned (.int .i64 (k + (weighs T).sum)) ∧ (∃ LT XT, TabS w' g0 vs US LT q XT k T.length T) ∧ ChgB P w w') := by
  have hws := weighs_sum T
  have HF := Lib.hid hf
  have HS0 := Lib.hid hs
  have HWS := Lib.hid hws
  have H1 := Lib.hid h1
  have hLen : T.length ≤ 1099511627776 := by unfold bulkT at h1; omega
  clear hf hs hws h1
  go_enter Try.func54, Try.ntmps54
  go_wp2
  go_loopw [1, 5] (fun m i wr => ∃ (j : Nat) (r : Int) (LT : List (List Int)) (XT : Nat → List Value), j ≤ T.length ∧ i = .int .i64 j ∧ m = .int .i64 r ∧ Hid (r = k + sumN (weighs T) j) ∧ Hid (TabS wr g0 vs US LT q XT k j T) ∧ Hid (ChgB P w wr)) (fun _ i _ => T.length - (intOf i).toNat)
  case atStart => exact ⟨0, k, LS, XS, Nat.zero_le _, rfl, rfl, Lib.hid (by rw [sumN_zero]; simp), HS0, Lib.hid (ChgB.refl _ _)⟩
  case round =>
    clear HS0
    obtain ⟨j, r, LT, XT, hj, rfl, rfl, hr, hS, hC⟩ := hrel
    by_cases hlt : j < T.length
    · have hr0 : 0 ≤ r := by have := hr.out; omega
      have hr1 : r ≤ 1099511627776 := by
        have h := hr.out
        have h2 := sumN_mono (g := weighs T) (k := j) (by rw [weighs_len]; omega)
        have := HWS.out; have := H1.out; omega
      have hs := sumN_succ (g := weighs T) (k := j) (by rw [weighs_len]; exact hlt)
      rw [weighs_get hlt] at hs
      have HSU := Lib.hid hs
      clear hs
      rcases HF.out.val j hlt with ⟨he, a, c, hv, _⟩ | ⟨hne, hv, _⟩
      · have hc := hS.out.out.cell j _ hv
        have HE := Lib.hid he
        clear hv he
        go_wp2_with fail
        refine (markRowS_empty _ _ _ _).mono ?_
        rintro e w3 ⟨rfl, rfl⟩
        clear hc
        go_wp2
        go_roundw
        case rel => exact ⟨j + 1, r, LT, XT, by omega, by go_num, rfl, Lib.hid (by have h1 := hr.out; have h2 := HSU.out; have h3 := HE.out; rw [h3] at h2; simp [weigh] at h2; omega), Lib.hid (hS.out.skip hlt HE.out), hC⟩
        case measure => simp [intOf]; omega
      · have hc := hS.out.out.cell j _ hv
        have hbx := hS.out.box j hlt hne
        have hlen : bulkR T[j] ≤ 1099511627776 := by have := bulkT_row hlt; have := H1.out; omega
        have hcall := markRowW_any 0 (q.b j) (q.o j) (mAt T j) (q.c j) _ US LT T[j] r _ hbx.1 hS.out.row (fun i u hu => (HF.out.lists i u hu).1 j hlt hne) hbx.2 (hS.out.old j hlt (Nat.le_refl _)) hr0 hr1 hlen
        have HCALL := Lib.hid hcall
        have HNE := Lib.hid hne
        obtain ⟨n, hn⟩ : ∃ n, n = T[j].length := ⟨_, rfl⟩
        rw [← hn] at hc
        have HN := Lib.hid hn
        have hwj := weigh_sum T[j]
        obtain ⟨s, hsd⟩ : ∃ s, s = (weigh T[j]).sum := ⟨_, rfl⟩
        rw [← hsd] at hwj
        have HSD := Lib.hid hsd
        have hs1 : s ≤ 109951162770 := by have := bulkT_row hlt; have := H1.out; omega
        clear hv hbx hcall hne hn hsd hwj
        go_wp2_with fail
        rw [HN.out]
        refine HCALL.out.mono ?_
        rintro e w3 ⟨rfl, zs, LT', b3, k3, r3, o3, m3, c3⟩
        have hr' := hr.out
        have hS3 := TabS.step HF.out hS.out hlt HNE.out b3 k3 r3 o3 (by rw [hr'] at m3; exact m3) c3
        have hC3 : ChgB P w w3 := hC.out.trans (c3.more (by
          rintro b (rfl | ⟨n, u, hu, hub⟩)
          · exact HF.out.foot.2.1 j hlt HNE.out
          · exact HF.out.foot.2.2 n u b hu hub))
        have S3 := Lib.hid hS3
        have C3 := Lib.hid hC3
        rw [← HSD.out]
        clear b3 k3 r3 o3 m3 c3 hS3 hC3 hr' hc
        go_wp2
        go_roundw
        case rel => exact ⟨j + 1, r + s, LT', _, by omega, by go_num, rfl, Lib.hid (by have h1 := hr.out; have h2 := HSU.out; have h3 := HSD.out; omega), S3, C3⟩
        case measure => simp [intOf]; omega
    · obtain rfl : j = T.length := by omega
      go_wp2
      go_ret
      refine ⟨?_, ⟨LT, XT, hS.out⟩, hC.out⟩
      have h := hr.out
      have h2 := sumN_all (weighs T)
      rw [weighs_len] at h2
      rw [h2] at h
      rw [h]; rfl
end Go.Proofs.Ytbffkidkfannhaa

namespace Go.Proofs.Ytbffkidkfannhaa
open Go.RowKit
set_option linter.unusedVariables false

/-- The marks of a table's rows from k on stand so. -/
def HeldT (w : World) (g0 : Nat) (q : WinT) (k : Int) (T : List (List RowD)) : Prop := ∀ j (h : j < T.length), (T[j] = [] ∧ ∃ a c, w.cell? ⟨g0, j, none⟩ = some (.slice a 0 c)) ∨ (T[j] ≠ [] ∧ w.cell? ⟨g0, j, none⟩ = some (.slice (some ⟨q.b j, q.o j, none⟩) T[j].length (q.c j)) ∧ ∀ i (h' : i < T[j].length), HeldX w (q.b j) (q.o j + i * 10) (k + sumN (weighs T) j + sumN (weigh T[j]) i) T[j][i].l.length)
theorem HeldT.ext {w w' : World} {g0 : Nat} {q : WinT} {k : Int} {T : List (List RowD)} (h : HeldT w g0 q k T) (e : Ext w w') : HeldT w' g0 q k T := fun j hj => by
  rcases h j hj with ⟨h1, a, c, h2⟩ | ⟨h1, h2, h3⟩
  · exact .inl ⟨h1, a, c, e.cell h2⟩
  · exact .inr ⟨h1, e.cell h2, fun i hi => (h3 i hi).ext e⟩
theorem heldT_of {P : Nat → Prop} {w : World} {g0 : Nat} {vs US : List Value} {LS : List (List Int)} {q : WinT} {XS : Nat → List Value} {k : Int} {T : List (List RowD)} (f : TabF P g0 vs US q T) (h : TabS w g0 vs US LS q XS k T.length T) : HeldT w g0 q k T := fun j hj => by
  rcases f.val j hj with ⟨he, a, c, hv, _⟩ | ⟨hne, hv, _⟩
  · exact .inl ⟨he, a, c, h.out.cell j _ hv⟩
  · refine .inr ⟨hne, h.out.cell j _ hv, fun i hi => ?_⟩
    obtain ⟨u, hu, hl, hx⟩ := h.new j hj hj i hi
    exact heldX_of (h.box j hj hne).1 hx (h.row.row _ _ _ hu hl).ints
theorem tabS_rows {P : Nat → Prop} {w : World} {g0 cap : Nat} {vs US : List Value} {LS : List (List Int)} {q : WinT} {XS : Nat → List Value} {k : Int} {T : List (List RowD)} (f : TabF P g0 vs US q T) (h : TabS w g0 vs US LS q XS k 0 T) (h1 : T.length ≤ cap) (h2 : cap ≤ maxLen) : Rowzz w (.slice (some ⟨g0, 0, none⟩) T.length cap) T := by
  refine ⟨some ⟨g0, 0, none⟩, cap, rfl, by omega, ⟨h1, h2, fun h => by cases h⟩, fun _ => ⟨g0, 0, rfl, fun j hj => ?_⟩⟩
  rcases f.val j hj with ⟨he, a, c, hv, hc, ha⟩ | ⟨hne, hv, hc, hm⟩
  · refine ⟨_, by rw [Nat.zero_add]; exact h.out.cell j _ hv, ?_⟩
    rw [he]
    exact ⟨a, c, rfl, by simp, ⟨by simp, hc, ha⟩, fun h => by simp at h⟩
  · refine ⟨_, by rw [Nat.zero_add]; exact h.out.cell j _ hv, some ⟨q.b j, q.o j, none⟩, q.c j, rfl, by omega, ⟨hc, hm, fun h => by cases h⟩, fun _ => ⟨q.b j, q.o j, rfl, fun i hi => ?_⟩⟩
    obtain ⟨u, hu, hl, hx⟩ := h.old j hj (Nat.zero_le _) i hi
    have hb := (h.box j hj hne).1
    obtain ⟨x0, x1, x2, x3, x4, x5, x6, x7, x8, x9⟩ := hx
    exact ⟨u, ⟨hb.cell _ _ x0, hb.cell _ _ x1, hb.cell _ _ x2, hb.cell _ _ x3, hb.cell _ _ x4, hb.cell _ _ x5, hb.cell _ _ x6, hb.cell _ _ x7, hb.cell _ _ x8, hb.cell _ _ x9⟩, (h.row.row _ _ _ hu hl).ints⟩
theorem heldRowS_empty (a : Option Addr) (c : Nat) (k : Int) (w : World) : Calls Try.prog 84 #[.slice a 0 c, .int .i64 k] w (IntExt k w) := by
  go_enter Try.func84, Try.ntmps84
  go_wp2
  refine wp_loop_rounds 1 ?_; rw [rounds_succ]
  go_wp2
  go_ret
  exact ⟨rfl, Ext.refl _⟩
set_option maxHeartbeats 4000000 in
set_option maxRecDepth 100000 in
theorem heldTabW_yes (g0 cap : Nat) (q : WinT) (T : List (List RowD)) (k : Int) (w : World) (hx : HeldT w g0 q k T) (h0 : 0 ≤ k) (hk : k ≤ 1073741824) (h1 : bulkT T ≤ 10995116277) :
    Calls Try.prog 56 #[.slice (some ⟨g0, 0, none⟩) T.length cap, .int .i64 k] w (IntExt (k + (weighs T).sum) w) := by
  have hws := weighs_sum T
  have HX := Lib.hid hx
  have HWS := Lib.hid hws
  have H1 := Lib.hid h1
  have hLen : T.length ≤ 1099511627776 := by unfold bulkT at h1; omega
  clear hx hws h1
  go_enter Try.func56, Try.ntmps56
  go_wp2
  go_loopw [1, 5] (fun m i wr => ∃ (j : Nat) (r : Int), j ≤ T.length ∧ i = .int .i64 j ∧ m = .int .i64 r ∧ Hid (r = k + sumN (weighs T) j) ∧ Hid (Ext w wr)) (fun _ i _ => T.length - (intOf i).toNat)
  case atStart => exact ⟨0, k, Nat.zero_le _, rfl, rfl, Lib.hid (by rw [sumN_zero]; simp), Lib.hid (Ext.refl _)⟩
  case round =>
    obtain ⟨j, r, hj, rfl, rfl, hr, hE⟩ := hrel
    by_cases hlt : j < T.length
    · have hr0 : 0 ≤ r := by have := hr.out; omega
      have hr1 : r ≤ 1099511627776 := by
        have h := hr.out
        have h2 := sumN_mono (g := weighs T) (k := j) (by rw [weighs_len]; omega)
        have := HWS.out; have := H1.out; omega
      have hs := sumN_succ (g := weighs T) (k := j) (by rw [weighs_len]; exact hlt)
      rw [weighs_get hlt] at hs
      have HSU := Lib.hid hs
      clear hs
      rcases HX.out j hlt with ⟨he, a, c, hc⟩ | ⟨hne, hc, hh⟩
      · have hc := hE.out.cell hc
        have HE := Lib.hid he
        clear he
        go_wp2_with fail
        refine (heldRowS_empty _ _ _ _).mono ?_
        rintro e w3 ⟨rfl, x3⟩
        have hE3 := Lib.hid (hE.out.trans x3)
        clear hc x3
        go_wp2
        go_roundw
        case rel => exact ⟨j + 1, r, by omega, by go_num, rfl, Lib.hid (by have h1 := hr.out; have h2 := HSU.out; have h3 := HE.out; rw [h3] at h2; simp [weigh] at h2; omega), hE3⟩
        case measure => simp [intOf]; omega
      · have hc := hE.out.cell hc
        have hlen : bulkR T[j] ≤ 1099511627776 := by have := bulkT_row hlt; have := H1.out; omega
        have hcall := fun W (e : Ext w W) => heldRowW_yes (q.b j) (q.o j) (q.c j) T[j] r W (fun i hi => by rw [hr.out]; exact (hh i hi).ext e) hr0 hr1 hlen
        have HCALL := Lib.hid hcall
        obtain ⟨n, hn⟩ : ∃ n, n = T[j].length := ⟨_, rfl⟩
        rw [← hn] at hc
        have HN := Lib.hid hn
        have hwj := weigh_sum T[j]
        obtain ⟨s, hsd⟩ : ∃ s, s = (weigh T[j]).sum := ⟨_, rfl⟩
        rw [← hsd] at hwj
        have HSD := Lib.hid hsd
        have hs1 : s ≤ 109951162770 := by have := bulkT_row hlt; have := H1.out; omega
        clear hcall hne hn hsd hwj hh
        go_wp2_with fail
        rw [HN.out]
        refine (HCALL.out _ hE.out).mono ?_
        rintro e w3 ⟨rfl, x3⟩
        have hE3 := Lib.hid (hE.out.trans x3)
        rw [← HSD.out]
        have hq0 : 0 ≤ r + (s : Int) := by omega
        clear hc x3
        go_wp2
        go_roundw
        case rel => exact ⟨j + 1, r + s, by omega, by go_num, rfl, Lib.hid (by have h1 := hr.out; have h2 := HSU.out; have h3 := HSD.out; omega), hE3⟩
        case measure => simp [intOf]; omega
    · obtain rfl : j = T.length := by omega
      go_wp2
      go_ret
      refine ⟨?_, hE.out⟩
      have h := hr.out
      have h2 := sumN_all (weighs T)
      rw [weighs_len] at h2
      rw [h2] at h
      rw [h]; rfl
end Go.Proofs.Ytbffkidkfannhaa
