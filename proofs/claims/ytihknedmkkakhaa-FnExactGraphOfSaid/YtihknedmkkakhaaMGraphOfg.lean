/- Texts of this proof, part g: words, plain facts, contracts. -/
import Derived.Test.YtihknedmkkakhaaMGraphOff
import Derived.Test.YtihknedmkkakhaaMGraphOfe
import Derived.Maps.AppendAt
import Derived.Test.YtihknedmkkakhaaMGraphOfa

namespace Go.Proofs.Ytihknedmkkakhaa
open Go.RowKit Go.Maps
set_option linter.unusedVariables false

theorem set_nextI (vs : List Value) (z n : Value) (k m : Nat) (hk : vs.length = k) (hm : k < m) : (vs ++ List.replicate (m - k) n).set k z = (vs ++ [z]) ++ List.replicate (m - (k + 1)) n := by
  rw [List.set_append_right _ _ (by omega), hk, Nat.sub_self]
  have e : m - k = (m - (k + 1)) + 1 := by omega
  rw [e, List.replicate_succ, List.set_cons_zero]
  simp

set_option maxHeartbeats 2000000 in
set_option maxRecDepth 100000 in
theorem pairsOf_any (u : Value) (I : List (Nat × Nat)) (w : World) (hu : InstsAt w u I) (hI : I.length ≤ 1048576) :
    Calls Try.prog 63 #[u] w (NewIntss (I.map pairOf) w) := by
  obtain ⟨L, hL⟩ : ∃ L, L = I.map pairOf := ⟨_, rfl⟩
  have hl : L.length = I.length := by rw [hL]; simp
  obtain ⟨au, cu, rfl, hlu, _, hcu⟩ := hu
  unfold maxLen at hlu
  obtain ⟨i0, hi, hz0, hz1, hz2⟩ := info_parts Try.infoInts
  have HLI := Lib.hid hL
  have HI := Lib.hid hI
  rw [← hL]
  clear hL
  rw [← hl] at hlu ⊢
  have HCU := Lib.hid hcu
  have HLL := Lib.hid hl
  have hL2 : L.length ≤ 1048576 := by omega
  clear hcu hl hI
  go_enter Try.func63, Try.ntmps63
  go_wp2_with (at_make; refine wpList_make_full _ rfl _ _ 24 rfl w.heap.size 30 i0 (.slice none 0 0) 1 Try.underlying24 hi hz0 hz1 _ _ _ _ L.length rfl rfl rfl rfl ?c1 ?c2 ?c3 ?_)
  case c1 => rw [hz2]; omega
  case c2 => unfold maxLen; omega
  case c3 => simp
  intro w1 ho1 hg1
  have hx1 : Ext w w1 := ext_of_grown hg1
  have ho : w1.ownsRow w.heap.size 30 1 (.slice (some ⟨w.heap.size, 0, none⟩) L.length L.length) L.length (([] : List Value) ++ List.replicate (L.length - 0) (.slice none 0 0)) := by
    rw [toList_madeCells_one] at ho1
    simpa using ho1
  have hsz : w.heap.size < w1.heap.size := by
    rcases ho1.2 with ⟨h, _⟩ | ⟨g, cap, cur, h, hb, hg, _⟩
    · cases h
    · simp only [Value.slice.injEq, Option.some.injEq, Addr.mk.injEq, and_true, true_and] at h
      obtain ⟨rfl, _⟩ := h
      exact (Array.getElem?_eq_some_iff.1 hg).1
  clear ho1 hg1 hz0 hz1 hz2 hi
  go_wp2
  go_loopw [11] (fun i wr => ∃ (k : Nat) (vs : List Value), k ≤ L.length ∧ i = .int .i64 k ∧ wr.ownsRow w.heap.size 30 1 (.slice (some ⟨w.heap.size, 0, none⟩) L.length L.length) L.length (vs ++ List.replicate (L.length - k) (.slice none 0 0)) ∧ Rows_ (w.heap.size + 1) wr vs (L.take k) ∧ w.heap.size < wr.heap.size ∧ Ext w wr) (fun i _ => L.length - (intOf i).toNat)
  case atStart => exact ⟨0, [], Nat.zero_le _, rfl, ho, by simpa using Rows_.nil _ _, hsz, hx1⟩
  case round =>
    clear ho hx1 hsz
    obtain ⟨k, vs, hk, rfl, ho, hR, hsz, hx⟩ := hrel
    have hvl : vs.length = k := by rw [hR.len]; simp; omega
    by_cases hlt : k < L.length
    · obtain ⟨bu, ou, rfl, du⟩ := HCU.out (by have := HLL.out; omega)
      have hki : k < I.length := by have := HLL.out; omega
      obtain ⟨q0, q1⟩ := du k hki
      obtain ⟨x, hx1⟩ : ∃ x, x = I[k] := ⟨_, rfl⟩
      rw [← hx1] at q0 q1
      have eLk : L[k] = pairOf x := by simp only [HLI.out, List.getElem_map, hx1]
      have HE := Lib.hid eLk
      have g0 := hx.cell q0
      have g1 := hx.cell q1
      have HO := Lib.hid ho
      have HR := Lib.hid hR
      have HV := Lib.hid hvl
      clear du q0 q1 hx1 eLk ho hR hvl
      have x2 : Ext wr ((wr.alloc (.cells #[.int .i64 x.1, .int .i64 ((x.2 : Int) + 1)] 101)).alloc (.cells #[.int .i64 x.1, .int .i64 ((x.2 : Int) + 1)] 3)) := Ext.alloc2 _ _ _
      have f2 : Fresh wr.heap.size ((wr.alloc (.cells #[.int .i64 x.1, .int .i64 ((x.2 : Int) + 1)] 101)).alloc (.cells #[.int .i64 x.1, .int .i64 ((x.2 : Int) + 1)] 3)) (.slice (some ⟨wr.heap.size + 1, 0, none⟩) 2 2) L[k] := by
        rw [HE.out]
        exact fresh_lit2 wr _ (pairOf x) 2 #[.int .i64 x.1, .int .i64 ((x.2 : Int) + 1)] rfl rfl (by simp [pairOf])
      have F2 := Lib.hid f2
      have X2 := Lib.hid x2
      have ho2 := x2.ownsRow HO.out
      have hlen2 : (vs ++ List.replicate (L.length - k) (Value.slice none 0 0)).length = L.length := by simp [HV.out]; omega
      have gs := (ho2.cellAt k (by omega)).trans (show _ = some (Value.slice none 0 0) by
        rw [List.getElem?_append_right (by have := HV.out; omega)]
        rw [List.getElem?_replicate, if_pos (by have := HV.out; omega)])
      have gf := ho2.frozenAt k
      have hst0 := ho2.stored k (.slice (some ⟨wr.heap.size + 1, 0, none⟩) 2 2)
      have hext0 : Ext w (((wr.alloc (.cells #[.int .i64 x.1, .int .i64 ((x.2 : Int) + 1)] 101)).alloc (.cells #[.int .i64 x.1, .int .i64 ((x.2 : Int) + 1)] 3)).setCell ⟨w.heap.size, k, none⟩ (.slice (some ⟨wr.heap.size + 1, 0, none⟩) 2 2)) := Below.setCell (hx.trans x2) (Nat.le_refl _) _
      have ecm : ((wr.alloc (.cells #[.int .i64 x.1, .int .i64 ((x.2 : Int) + 1)] 101)).alloc (.cells #[.int .i64 x.1, .int .i64 ((x.2 : Int) + 1)] 3)).setCell ⟨w.heap.size, k, none⟩ (.slice (some ⟨wr.heap.size + 1, 0, none⟩) 2 2) = ((wr.setCell ⟨w.heap.size, k, none⟩ (.slice (some ⟨wr.heap.size + 1, 0, none⟩) 2 2)).alloc (.cells #[.int .i64 x.1, .int .i64 ((x.2 : Int) + 1)] 101)).alloc (.cells #[.int .i64 x.1, .int .i64 ((x.2 : Int) + 1)] 3) := by
        rw [World.setCell_alloc_past (hn := by simp; omega), World.setCell_alloc_past (hn := hsz)]
      rw [ecm] at hst0 hext0
      have HST := Lib.hid hst0
      have HEX := Lib.hid hext0
      clear hlen2 f2 x2 ho2 hst0 hext0 ecm
      go_wp2
      go_roundw
      case rel =>
        have hst := HST.out
        rw [set_nextI vs _ _ k L.length HV.out hlt] at hst
        have hsn := HR.out.snoc X2.out F2.out (by omega)
        have htk : L.take k ++ [L[k]] = L.take (k + 1) := by rw [List.take_add_one, List.getElem?_eq_getElem hlt]; rfl
        rw [htk] at hsn
        refine ⟨k + 1, _, by omega, by go_num, hst.1, hsn.touch hst.2 (hsn.low (by omega)), ?_, HEX.out⟩
        have := X2.out.size
        have := hst.2.size
        omega
      case measure => simp [intOf]; omega
    · obtain rfl : k = L.length := by omega
      have HO := Lib.hid ho
      have HR := Lib.hid hR
      clear ho hR
      go_wp2
      go_ret
      refine ⟨_, rfl, ⟨vs, ?_, ?_, ?_⟩, hx⟩
      · have h := HO.out
        rw [Nat.sub_self] at h
        simpa using h
      · have h := HR.out
        rw [List.take_length] at h
        exact h.more (by omega)
      · exact HR.out.low (g := w.heap.size) (by omega)

end Go.Proofs.Ytihknedmkkakhaa

namespace Go.Proofs.Ytihknedmkkakhaa
open Go.RowKit
set_option linter.unusedVariables false

/-- x hangs on y, another one. -/
def edgeB (n : Int) (T : List (List RowD)) (x y : Nat × Nat) : Bool := !(decide (x = y)) && decide ((y.2 : Int) + 1 ≤ depI (rowOf n T x.1 x.2) y.1)
/-- Those of the first k on which x hangs. -/
def rowE (n : Int) (T : List (List RowD)) (L : List (Nat × Nat)) (x : Nat × Nat) (k : Nat) : List Int := ((List.range k).filter fun j => edgeB n T x (L[j]?.getD (0, 0))).map fun (j : Nat) => (j : Int)
def graphP (n : Int) (T : List (List RowD)) (L : List (Nat × Nat)) : List (List Int) := L.map fun x => rowE n T L x L.length
theorem rowE_zero (n : Int) (T : List (List RowD)) (L : List (Nat × Nat)) (x : Nat × Nat) : rowE n T L x 0 = [] := rfl
theorem rowE_succ {n : Int} {T : List (List RowD)} {L : List (Nat × Nat)} {x : Nat × Nat} {k : Nat} (h : k < L.length) : rowE n T L x (k + 1) = rowE n T L x k ++ if edgeB n T x L[k] then [(k : Int)] else [] := by
  unfold rowE
  rw [List.range_succ, List.filter_append, List.map_append]
  congr 1
  have e : L[k]?.getD (0, 0) = L[k] := by simp [h]
  cases hb : edgeB n T x L[k] <;> simp [hb, h]
theorem rowE_len (n : Int) (T : List (List RowD)) (L : List (Nat × Nat)) (x : Nat × Nat) (k : Nat) : (rowE n T L x k).length ≤ k := by
  unfold rowE
  rw [List.length_map]
  have := List.length_filter_le (fun j => edgeB n T x (L[j]?.getD (0, 0))) (List.range k)
  simpa using this
/-- While the graph is made: k rows are whole, of the next one the first j are looked at. -/
def halfG (n : Int) (T : List (List RowD)) (L : List (Nat × Nat)) (k j : Nat) : List (List Int) := (List.range L.length).map fun i => if i < k then rowE n T L (L[i]?.getD (0, 0)) L.length else if i = k then rowE n T L (L[i]?.getD (0, 0)) j else []
theorem halfG_len (n : Int) (T : List (List RowD)) (L : List (Nat × Nat)) (k j : Nat) : (halfG n T L k j).length = L.length := by simp [halfG]
theorem halfG_at {n : Int} {T : List (List RowD)} {L : List (Nat × Nat)} {k : Nat} (j : Nat) (h : k < L.length) : (halfG n T L k j)[k]? = some (rowE n T L L[k] j) := by simp [halfG, h]
theorem halfG_set {n : Int} {T : List (List RowD)} {L : List (Nat × Nat)} {k : Nat} (j : Nat) (h : k < L.length) : halfG n T L k (j + 1) = (halfG n T L k j).set k (rowE n T L L[k] (j + 1)) := by
  apply List.ext_getElem?
  intro i
  rw [List.getElem?_set]
  unfold halfG
  by_cases e : k = i
  · subst e
    simp [h]
  · by_cases hi : i < L.length
    · simp [hi, e, Ne.symm e]
    · simp [hi, e]
theorem halfG_stay {n : Int} {T : List (List RowD)} {L : List (Nat × Nat)} {k : Nat} (j : Nat) (h : k < L.length) (he : rowE n T L L[k] (j + 1) = rowE n T L L[k] j) : halfG n T L k (j + 1) = halfG n T L k j := by
  rw [halfG_set j h, he]
  apply List.ext_getElem?
  intro i
  rw [List.getElem?_set]
  by_cases e : k = i
  · subst e
    rw [if_pos rfl, if_pos (by rw [halfG_len]; exact h), halfG_at j h]
  · rw [if_neg e]
theorem halfG_next {n : Int} {T : List (List RowD)} {L : List (Nat × Nat)} {k : Nat} : halfG n T L k L.length = halfG n T L (k + 1) 0 := by
  apply List.ext_getElem?
  intro i
  unfold halfG
  by_cases hi : i < L.length
  · simp only [List.getElem?_map, List.getElem?_range hi, Option.map_some, Option.some.injEq]
    by_cases h1 : i < k
    · rw [if_pos h1, if_pos (by omega)]
    · rw [if_neg h1]
      by_cases h2 : i = k
      · rw [if_pos h2, if_pos (by omega)]
      · rw [if_neg h2, if_neg (by omega)]
        by_cases h3 : i = k + 1
        · rw [if_pos h3, rowE_zero]
        · rw [if_neg h3]
  · simp [hi]
theorem halfG_zero (n : Int) (T : List (List RowD)) (L : List (Nat × Nat)) : halfG n T L 0 0 = List.replicate L.length [] := by
  apply List.ext_getElem?
  intro i
  unfold halfG
  by_cases hi : i < L.length
  · simp only [List.getElem?_map, List.getElem?_range hi, Option.map_some, List.getElem?_replicate, if_pos hi, Option.some.injEq]
    rw [if_neg (by omega)]
    by_cases h2 : i = 0
    · rw [if_pos h2, rowE_zero]
    · rw [if_neg h2]
  · simp [hi]
theorem halfG_all (n : Int) (T : List (List RowD)) (L : List (Nat × Nat)) : halfG n T L L.length 0 = graphP n T L := by
  apply List.ext_getElem?
  intro i
  unfold halfG graphP
  by_cases hi : i < L.length
  · simp [hi]
  · simp [hi]

/-! ### In place -/
theorem Rows_.push {B k : Nat} {w w' : World} {vs : List Value} {L : List (List Int)} {z v' : Value} {l : List Int} (h : Rows_ B w vs L) (hz : vs[k]? = some z) (t : w.grownBy w' z.ownBlock) (hv : Fresh B w' v' l)
    (hloc : v'.ownBlock = z.ownBlock ∨ v'.ownBlock = some w.heap.size) : Rows_ B w' (vs.set k v') (L.set k l) := by
  have hk : k < vs.length := (List.getElem?_eq_some_iff.1 hz).1
  have hkL : k < L.length := by rw [← h.len]; exact hk
  have low : ∀ (j : Nat) (u : Value), vs[j]? = some u → ∀ g, u.ownBlock = some g → g < w.heap.size := fun j u hu g hg => by
    have hj := (List.getElem?_eq_some_iff.1 hu).1
    exact (World.ownsRow.lt (h.row j u _ hu (List.getElem?_eq_getElem (by rw [← h.len]; exact hj))) g hg).2
  refine ⟨by rw [List.length_set, List.length_set]; exact h.len, fun j u r hu hr => ?_, fun i j u y hij hu hy => ?_⟩
  · rw [List.getElem?_set] at hu hr
    by_cases e1 : k = j
    · rw [if_pos e1, if_pos hk] at hu
      rw [if_pos e1, if_pos hkL] at hr
      rw [← Option.some.inj hu, ← Option.some.inj hr]
      exact hv
    · rw [if_neg e1] at hu hr
      exact World.ownsRow.kept (h.row j u r hu hr) t (h.apart j k u z (fun e => e1 e.symm) hu hz)
  · rw [List.getElem?_set] at hu hy
    by_cases e1 : k = i
    · by_cases e2 : k = j
      · omega
      · rw [if_pos e1, if_pos hk] at hu
        rw [if_neg e2] at hy
        cases hu
        rcases hloc with e | e
        · rw [e]; exact h.apart k j z y (fun e' => e2 e') hz hy
        · rw [e]
          exact .inr (fun e' => by have := low j y hy _ e'.symm; omega)
    · rw [if_neg e1] at hu
      by_cases e2 : k = j
      · rw [if_pos e2, if_pos hk] at hy
        cases hy
        cases hb : u.ownBlock with
        | none => exact .inl rfl
        | some g =>
          refine .inr (fun e' => ?_)
          rcases hloc with e | e
          · rcases h.apart i k u z (fun e' => e1 e'.symm) hu hz with h0 | h0
            · rw [hb] at h0; cases h0
            · exact h0 (by rw [hb, e', e])
          · rw [e] at e'
            cases e'
            have := low i u hu _ hb
            omega
      · rw [if_neg e2] at hy
        exact h.apart i j u y hij hu hy

/-- append(s, x), s of the call's own: and where the new slice lies. -/
theorem wpList_pushAt {ops : Array Oper} {rest : List Oper} {o : Oper} {a : Act} {Q : Exit → Act → World → Prop} {w : World} (hgd : o.guard = none) (s x : Operand)
    (ho : o.op = .call { callee := .builtin .append, args := #[s, x], argTypes := #[30, 30] })
    (B : Nat) (v : Value) (l : List Int) (n : Int) (hs : a.eval s = v) (hf : Fresh B w v l) (ad : Addr) (c : Nat) (hx : a.eval x = .slice (some ad) 1 c)
    (hc : w.cell? ad = some (.int .i64 n)) (hl : l.length ≤ 1099511627776) (hB : B ≤ w.heap.size)
    (h : ∀ v' w', Fresh B w' v' (l ++ [n]) → w.grownBy w' v.ownBlock → Kept B w w' → (v'.ownBlock = v.ownBlock ∨ v'.ownBlock = some w.heap.size) → wpList Try.prog ops Q rest (a.put o.dst v') w') : wpList Try.prog ops Q (o :: rest) a w := by
  obtain ⟨i0, hi, hz0, hz1, hz2⟩ := info_parts Try.infoInt
  refine wpList_append_own_at _ hgd s x 30 ho B 3 i0 (.int .i64 0) 1 8 Try.underlying30 hi hz0 hz1 hz2 rfl (by decide) v l.length _ hs hf ad 1 c [.int .i64 n] hx rfl ?_ ?_ ?_ ?_ hB ?_
  · intro j u hj
    match j, hj with
    | 0, hj => simp at hj; subst hj; simpa [Addr.add] using hc
  · intro u hu; simp at hu; subst hu; rfl
  · unfold maxLen; omega
  · omega
  · intro v' w' ho' hg _ hloc
    refine h v' w' ?_ hg (fun w0 hx0 hB0 => Below.grown hx0 hg hx0.size (fun q hq => Nat.le_trans hB0 (World.ownsRow.lt hf q hq).1)) hloc
    unfold Fresh
    rw [List.map_append, List.length_append]; exact ho'

end Go.Proofs.Ytihknedmkkakhaa

namespace Go.Proofs.Ytihknedmkkakhaa
open Go.RowKit Go.Maps
set_option linter.unusedVariables false

/-- The instances ahead of (k, j). -/
def tillT (T : List (List RowD)) (k j p q : Nat) : Bool := inT T p q && (decide (p < k) || (decide (p = k) && decide (q < j)))
theorem tillT_zero (T : List (List RowD)) (p q : Nat) : tillT T 0 0 p q = false := by simp [tillT]
theorem tillT_step {T : List (List RowD)} {k j : Nat} (hk : k < T.length) (hj : j < T[k].length) (p q : Nat) :
    tillT T k (j + 1) p q = (tillT T k j p q || (decide (p = k) && decide (q = j))) := by
  unfold tillT
  by_cases e : p = k ∧ q = j
  · obtain ⟨rfl, rfl⟩ := e
    rw [inT_mk hk hj]
    simp
  · have h1 : (decide (p = k) && decide (q = j)) = false := by simpa using e
    rw [h1, Bool.or_false]
    congr 1
    rw [Bool.eq_iff_iff]
    simp
    omega
theorem tillT_next {T : List (List RowD)} {k : Nat} (hk : k < T.length) (p q : Nat) : tillT T (k + 1) 0 p q = tillT T k T[k].length p q := by
  unfold tillT
  cases hi : inT T p q with
  | false => rfl
  | true =>
    obtain ⟨hp, hq⟩ := inT_of hi
    rw [Bool.eq_iff_iff]
    simp
    by_cases e : p = k
    · subst e
      simp [hq]
    · omega
theorem tillT_all {T : List (List RowD)} (p q : Nat) : tillT T T.length 0 p q = inT T p q := by
  unfold tillT
  cases hi : inT T p q with
  | false => rfl
  | true =>
    obtain ⟨hp, hq⟩ := inT_of hi
    simp [hp]

/-- A map of a table's instances comes back, in new memory. -/
def NewRowMap (T : List (List RowD)) (S : Nat → Nat → Bool) (f : Nat → Nat → Value) (w : World) (e : Ending) (w' : World) : Prop :=
  ∃ b D, e = .returned (.map (some b)) ∧ RowMap w' b 30 D ∧ MapOf D S f ∧ w.heap.size ≤ b ∧ Ext w w'

theorem Ext.turned {w0 w w' : World} {b : Nat} (h : Ext w0 w) (t : w.grownBy w' (some b)) (hb : w0.heap.size ≤ b) : Ext w0 w' := Below.grown h t h.size (fun k hk => by cases hk; exact hb)

set_option maxHeartbeats 4000000 in
set_option maxRecDepth 100000 in
theorem rowsIn_any (n : Int) (u : Value) (T : List (List RowD)) (U : Nat → Nat → Value) (w : World) (hu : TabAt w u T U) (hT : T.length ≤ 5) (hR6 : ∀ R ∈ T, R.length ≤ 6) :
    Calls Try.prog 85 #[.agg #[.int .i64 n, u]] w (NewRowMap T (inT T) (rowF n T U) w) := by
  obtain ⟨au, cu, rfl, hlu, _, hcu⟩ := hu
  unfold maxLen at hlu
  have H6 := Lib.hid hR6
  clear hR6
  have hmm := @run_makeMap Try.prog
  have hx0 : Ext w ((w.alloc (.cells #[.int .i64 n, .slice au T.length cu] 48)).alloc (.map #[] 0)) := Ext.alloc (Ext.alloc1 _ _) _
  have hm0 : RowMap ((w.alloc (.cells #[.int .i64 n, .slice au T.length cu] 48)).alloc (.map #[] 0)) (w.heap.size + 1) 0 (.map []) := by
    have h := World.ownsMap_made (w.alloc (.cells #[.int .i64 n, .slice au T.length cu] 48)) Try.prog 101 asIs
    simpa using h
  have HX0 := Lib.hid hx0
  have HM0 := Lib.hid hm0
  clear hx0 hm0
  go_enter Try.func85, Try.ntmps85
  go_wp2
  go_loopw [12] (fun i wr => ∃ (k : Nat) (D : DataW Value), k ≤ T.length ∧ i = .int .i64 k ∧ Hid (RowMap wr (w.heap.size + 1) (6 * k) D) ∧ Hid (MapOf D (tillT T k 0) (rowF n T U)) ∧ Ext w wr) (fun i _ => T.length - (intOf i).toNat)
  case atStart => exact ⟨0, _, Nat.zero_le _, rfl, HM0, Lib.hid ((MapOf.empty (rowF n T U)).congr (fun p q => tillT_zero T p q) (fun _ _ h => by cases h)), HX0.out⟩
  case round =>
    clear HM0 HX0
    obtain ⟨k, D, hk, rfl, HM, HD, hx⟩ := hrel
    by_cases hlt : k < T.length
    · obtain ⟨bu, ou, rfl, du⟩ := hcu (by omega)
      obtain ⟨x, hx1, ix⟩ := du k hlt
      have gu := hx.cell hx1
      obtain ⟨R, hR⟩ : ∃ R, R = T[k] := ⟨_, rfl⟩
      rw [← hR] at ix
      have hl6 : R.length ≤ 6 := by rw [hR]; exact H6.out _ (List.getElem_mem hlt)
      obtain ⟨ax, cx, rfl, hlx, _, hcx⟩ := ix
      unfold maxLen at hlx
      have HR := Lib.hid hR
      have HX := Lib.hid hx
      clear hcu du hx1 hR hx
      go_wp2
      go_loopw [19] (fun i wr => ∃ (j : Nat) (D : DataW Value), j ≤ R.length ∧ i = .int .i64 j ∧ Hid (RowMap wr (w.heap.size + 1) (6 * k + j) D) ∧ Hid (MapOf D (tillT T k j) (rowF n T U)) ∧ Ext w wr) (fun i _ => R.length - (intOf i).toNat)
      case atStart => exact ⟨0, D, Nat.zero_le _, rfl, HM, HD, HX.out⟩
      case round =>
        clear HM HD HX
        obtain ⟨j, D, hj, rfl, HM, HD, hy⟩ := hrel
        by_cases hjt : j < R.length
        · obtain ⟨bx, ox, rfl, dx⟩ := hcx (by omega)
          obtain ⟨hy1, iy⟩ := dx j hjt
          obtain ⟨ay, cy, hU, _⟩ := iy
          have hval : rowF n T U k j = rowV R[j] (U k j) := by
            unfold rowF
            rw [rowOf_in hlt (by rw [← HR.out]; exact hjt)]
            simp only [HR.out]
          obtain ⟨d, hd⟩ : ∃ d, d = R[j] := ⟨_, rfl⟩
          rw [← hd] at hy1 hval hU
          rw [hU] at hy1 hval
          obtain ⟨g0, g1, g2, g3, g4, g5, g6, g7, g8, g9⟩ := hy1.ext hy
          have hput := HD.out.put (p := k) (q := j) (by omega) hval
          have HP := Lib.hid (hput.congr (S' := tillT T k (j + 1)) (f' := rowF n T U) (fun p q => tillT_step hlt (by rw [← HR.out]; exact hjt) p q) (fun _ _ _ => rfl))
          have HY := Lib.hid hy
          have HB : Hid (w.heap.size ≤ w.heap.size + 1) := Lib.hid (by omega)
          clear dx hy1 hd hcx hval hput HD hy hU
          go_wp2_with (at_mapUpdate; refine wpList_mapUpdate_own _ rfl _ _ _ 81 rfl 101 90 instKeyed Try.underlying81 asIs (w.heap.size + 1) (6 * k + j) D rfl (HM.out.alloc _) (by unfold maxLen; omega) _ _ (kl (k : Int) ((j : Int) + 1)) rfl rfl (keyOf_inst (wf_small (by omega) (by omega)) (wf_small (by omega) (by omega))) (.held (rowV d (.slice ay d.l.length cy))) [] rfl ?_)
          intro w1 hown1 hgrow1
          have hz : Ext w w1 := (HY.out.alloc _).turned hgrow1 HB.out
          have HO := Lib.hid hown1
          clear hown1 hgrow1 HM HY
          go_wp2
          go_roundw
          case rel => exact ⟨j + 1, _, by omega, by go_num, HO, HP, hz⟩
          case measure => simp [intOf]; omega
        · obtain rfl : j = R.length := by omega
          have HD' : Hid (MapOf D (tillT T (k + 1) 0) (rowF n T U)) := Lib.hid (HD.out.congr (fun p q => by rw [tillT_next hlt, ← HR.out]) (fun _ _ _ => rfl))
          have HM' : Hid (RowMap wr (w.heap.size + 1) (6 * (k + 1)) D) := Lib.hid (HM.out.mono (by omega))
          clear HD HM
          go_wp2
          go_roundw
          case rel => exact ⟨k + 1, D, by omega, by go_num, HM', HD', hy⟩
          case measure => simp [intOf]; omega
    · obtain rfl : k = T.length := by omega
      have HD' : Hid (MapOf D (inT T) (rowF n T U)) := Lib.hid (HD.out.congr (fun p q => (tillT_all p q).symm) (fun _ _ _ => rfl))
      have HM' : Hid (RowMap wr (w.heap.size + 1) 30 D) := Lib.hid (HM.out.mono (by omega))
      clear HD HM
      go_wp2
      go_ret
      exact ⟨_, D, rfl, HM'.out, HD'.out, by omega, hx⟩

end Go.Proofs.Ytihknedmkkakhaa

namespace Go.Proofs.Ytihknedmkkakhaa
open Go.RowKit
set_option linter.unusedVariables false

def bothTo (k f t k' f' t' : Int) (n : Nat) : Bool := (List.range n).any fun (j : Nat) => touchB k f t (j : Int) && touchB k' f' t' (j : Int)
theorem bothTo_succ (k f t k' f' t' : Int) (n : Nat) : bothTo k f t k' f' t' (n + 1) = (bothTo k f t k' f' t' n || (touchB k f t (n : Int) && touchB k' f' t' (n : Int))) := by
  simp [bothTo, List.range_succ]
theorem bothTo_all {k i f t a k' i' f' t' a' : Int} (hg : goodB k i f t a = true) (hg' : goodB k' i' f' t' a' = true) : interB k f t k' f' t' = bothTo k f t k' f' t' 4 := by
  unfold interB
  rw [← touchedTo_all hg, ← touchedTo_all hg']
  have r4 : List.range 4 = [0, 1, 2, 3] := rfl
  unfold touchedTo bothTo interL
  rw [r4]
  simp only [List.filter_cons, List.filter_nil, List.any_cons, List.any_nil]
  generalize touchB k f t ((0 : Nat) : Int) = a0
  generalize touchB k f t ((1 : Nat) : Int) = a1
  generalize touchB k f t ((2 : Nat) : Int) = a2
  generalize touchB k f t ((3 : Nat) : Int) = a3
  generalize touchB k' f' t' ((0 : Nat) : Int) = b0
  generalize touchB k' f' t' ((1 : Nat) : Int) = b1
  generalize touchB k' f' t' ((2 : Nat) : Int) = b2
  generalize touchB k' f' t' ((3 : Nat) : Int) = b3
  revert a0 a1 a2 a3 b0 b1 b2 b3
  decide

set_option maxHeartbeats 2000000 in
theorem implInterfere_good (k i f t a k' i' f' t' a' : Int) (w : World) (hg : goodB k i f t a = true) (hg' : goodB k' i' f' t' a' = true) :
    Calls Try.prog 125 #[.agg #[.int .i64 k, .int .i64 i, .int .i64 f, .int .i64 t, .int .i64 a], .agg #[.int .i64 k', .int .i64 i', .int .i64 f', .int .i64 t', .int .i64 a']] w (TwoB (bothTo k f t k' f' t' 4) true w) := by
  have HG := Lib.hid hg
  have HG' := Lib.hid hg'
  clear hg hg'
  go_enter Try.func125, Try.ntmps125
  go_wp2_with fail
  refine (implGood_any _ _ _ _ _ _).mono ?_
  rintro e w1 ⟨rfl, x1⟩
  rw [HG.out]
  obtain ⟨c0, c1, c2, c3, c4⟩ := (cmdAt_new2 w (.cells #[.int .i64 k, .int .i64 i, .int .i64 f, .int .i64 t, .int .i64 a] 86) 86 k' i' f' t' a').ext x1
  obtain ⟨d0, d1, d2, d3, d4⟩ := (((cmdAt_new w 86 k i f t a).ext (Ext.alloc (Ext.refl _) (.cells #[.int .i64 k', .int .i64 i', .int .i64 f', .int .i64 t', .int .i64 a'] 86)))).ext x1
  go_wp2_with fail
  refine (implGood_any _ _ _ _ _ _).mono ?_
  rintro e w2 ⟨rfl, x2⟩
  rw [HG'.out]
  have hc : CmdAt w2 (w.heap.size + 1) k' i' f' t' a' := (show CmdAt w1 (w.heap.size + 1) k' i' f' t' a' from ⟨c0, c1, c2, c3, c4⟩).ext x2
  have hd : CmdAt w2 w.heap.size k i f t a := (show CmdAt w1 w.heap.size k i f t a from ⟨d0, d1, d2, d3, d4⟩).ext x2
  clear c0 c1 c2 c3 c4 d0 d1 d2 d3 d4
  obtain ⟨c0, c1, c2, c3, c4⟩ := hc
  go_wp2_with fail
  refine (touchedBy_any _ _ _ _ _ _ HG'.out).mono ?_
  rintro e w3 ⟨rfl, x3⟩
  obtain ⟨d0, d1, d2, d3, d4⟩ := (hd.ext x3).ext (Ext.alloc (Ext.refl w3) (.cells #[.bool (touchB k' f' t' 0), .bool (touchB k' f' t' 1), .bool (touchB k' f' t' 2), .bool (touchB k' f' t' 3)] 166))
  have hx : Ext w w3 := ((((Ext.alloc (Ext.refl _) _).alloc _).trans x1).trans x2).trans x3
  clear c0 c1 c2 c3 c4 x1 x2 x3 hd
  go_wp2_with fail
  refine (touchedBy_any _ _ _ _ _ _ HG.out).mono ?_
  rintro e w4 ⟨rfl, x4⟩
  have m0 := x4.cell (a := ⟨w3.heap.size, 0, none⟩) (v := .bool (touchB k' f' t' 0)) (by go_simp)
  have m1 := x4.cell (a := ⟨w3.heap.size, 1, none⟩) (v := .bool (touchB k' f' t' 1)) (by go_simp)
  have m2 := x4.cell (a := ⟨w3.heap.size, 2, none⟩) (v := .bool (touchB k' f' t' 2)) (by go_simp)
  have m3 := x4.cell (a := ⟨w3.heap.size, 3, none⟩) (v := .bool (touchB k' f' t' 3)) (by go_simp)
  have hx4 : Ext w w4 := (hx.alloc _).trans x4
  have HM := Lib.hid (And.intro m0 (And.intro m1 (And.intro m2 m3)))
  clear d0 d1 d2 d3 d4 m0 m1 m2 m3 x4 hx
  go_wp2
  go_loopw [21] (fun j wr => ∃ n : Nat, n ≤ 4 ∧ j = .int .i64 n ∧ bothTo k f t k' f' t' n = false ∧ wr = w4) (fun j _ => 4 - (intOf j).toNat)
  case atStart => exact ⟨0, by omega, rfl, rfl, by trivial⟩
  case round =>
    obtain ⟨n, hn, rfl, ha, rfl⟩ := hrel
    have HA := Lib.hid ha
    clear ha
    by_cases hlt : n < 4
    · have hn4 : n = 0 ∨ n = 1 ∨ n = 2 ∨ n = 3 := by omega
      have hcell : wr.cell? ⟨w3.heap.size, n, none⟩ = some (.bool (touchB k' f' t' n)) := by
        obtain ⟨m0, m1, m2, m3⟩ := HM.out
        rcases hn4 with rfl | rfl | rfl | rfl
        · exact m0
        · exact m1
        · exact m2
        · exact m3
      have hix : ∀ W, (Instr.index 166 (.agg #[.bool (touchB k f t 0), .bool (touchB k f t 1), .bool (touchB k f t 2), .bool (touchB k f t 3)]) (.int .i64 (n : Int))).run Try.prog W = .ok (.bool (touchB k f t n)) W := by
        intro W
        rcases hn4 with rfl | rfl | rfl | rfl
        · exact index4_0 _ _ _ _ W
        · exact index4_1 _ _ _ _ W
        · exact index4_2 _ _ _ _ W
        · exact index4_3 _ _ _ _ W
      have hs := bothTo_succ k f t k' f' t' n
      rw [HA.out, Bool.false_or] at hs
      have HS := Lib.hid hs
      clear hs hn4
      cases h1 : touchB k f t n with
      | false =>
        rw [h1] at hix
        have HT := Lib.hid h1
        clear h1
        go_wp2
        go_roundw
        case rel => exact ⟨n + 1, by omega, by go_num, by rw [HS.out, HT.out]; rfl, by trivial⟩
        case measure => simp [intOf]; omega
      | true =>
        rw [h1] at hix
        have HT := Lib.hid h1
        clear h1
        cases h2 : touchB k' f' t' n with
        | false =>
          rw [h2] at hcell
          have HU := Lib.hid h2
          clear h2
          go_wp2
          go_roundw
          case rel => exact ⟨n + 1, by omega, by go_num, by rw [HS.out, HT.out, HU.out]; rfl, by trivial⟩
          case measure => simp [intOf]; omega
        | true =>
          rw [h2] at hcell
          have HU := Lib.hid h2
          clear h2
          go_wp2
          go_ret2
          have hb : bothTo k f t k' f' t' 4 = true := by
            unfold bothTo
            rw [List.any_eq_true]
            exact ⟨n, List.mem_range.2 hlt, by rw [HT.out, HU.out]; rfl⟩
          exact ⟨by rw [hb]; rfl, hx4⟩
    · obtain rfl : n = 4 := by omega
      go_wp2
      go_ret2
      exact ⟨by rw [HA.out]; rfl, hx4⟩

theorem implInterfere_any (k i f t a k' i' f' t' a' : Int) (w : World) :
    Calls Try.prog 125 #[.agg #[.int .i64 k, .int .i64 i, .int .i64 f, .int .i64 t, .int .i64 a], .agg #[.int .i64 k', .int .i64 i', .int .i64 f', .int .i64 t', .int .i64 a']] w (TwoB ((goodB k i f t a && goodB k' i' f' t' a') && interB k f t k' f' t') (goodB k i f t a && goodB k' i' f' t' a') w) := by
  cases hg : goodB k i f t a with
  | false =>
    have HG := Lib.hid hg
    clear hg
    go_enter Try.func125, Try.ntmps125
    go_wp2_with fail
    refine (implGood_any _ _ _ _ _ _).mono ?_
    rintro e w1 ⟨rfl, x1⟩
    rw [HG.out]
    go_wp2
    go_ret2
    exact ⟨rfl, ((Ext.alloc (Ext.refl _) _).alloc _).trans x1⟩
  | true =>
    cases hg' : goodB k' i' f' t' a' with
    | false =>
      have HG := Lib.hid hg
      have HG' := Lib.hid hg'
      clear hg hg'
      go_enter Try.func125, Try.ntmps125
      go_wp2_with fail
      refine (implGood_any _ _ _ _ _ _).mono ?_
      rintro e w1 ⟨rfl, x1⟩
      rw [HG.out]
      obtain ⟨c0, c1, c2, c3, c4⟩ := (cmdAt_new2 w (.cells #[.int .i64 k, .int .i64 i, .int .i64 f, .int .i64 t, .int .i64 a] 86) 86 k' i' f' t' a').ext x1
      go_wp2_with fail
      refine (implGood_any _ _ _ _ _ _).mono ?_
      rintro e w2 ⟨rfl, x2⟩
      rw [HG'.out]
      go_wp2
      go_ret2
      exact ⟨rfl, (((Ext.alloc (Ext.refl _) _).alloc _).trans x1).trans x2⟩
    | true =>
      rw [bothTo_all hg hg']
      exact implInterfere_good k i f t a k' i' f' t' a' w hg hg'

end Go.Proofs.Ytihknedmkkakhaa

namespace Go.Proofs.Ytihknedmkkakhaa
open Go.RowKit Go.Maps
set_option linter.unusedVariables false

/-- What is left of all instances while the map is swept: those that are settled, and those still to come. -/
def sweptT (T : List (List RowD)) (left : Lit → Bool) (p q : Nat) : Bool := inT T p q && (instCom T p q || left (kl (p : Int) ((q : Int) + 1)))
theorem inT_low {T : List (List RowD)} (hT : T.length ≤ 5) (hR6 : ∀ R ∈ T, R.length ≤ 6) {p q : Nat} (h : inT T p q = true) : p ≤ 4 ∧ q ≤ 5 := by
  obtain ⟨hp, hq⟩ := inT_of h
  have := hR6 _ (List.getElem_mem hp)
  omega
theorem instCom_inT {T : List (List RowD)} {p q : Nat} (h : instCom T p q = true) : inT T p q = true := by
  obtain ⟨hp, hq, _⟩ := instCom_lt h
  exact inT_mk hp hq
theorem instCom_row {n : Int} {T : List (List RowD)} {p q : Nat} (h : inT T p q = true) : instCom T p q = ((rowOf n T p q).st == 3) := by
  obtain ⟨hp, hq⟩ := inT_of h
  rw [instCom_in hp hq, rowOf_in hp hq]
theorem same_kl {p q p' q' : Nat} (h1 : p ≤ 1048576 ∧ q ≤ 1048576) (h2 : p' ≤ 1048576 ∧ q' ≤ 1048576) : (kl (p : Int) ((q : Int) + 1)).sameKey (kl (p' : Int) ((q' : Int) + 1)) = (decide (p = p') && decide (q = q')) := by
  by_cases e : p = p' ∧ q = q'
  · obtain ⟨rfl, rfl⟩ := e
    rw [WideAt.sameKey_self (instKeyed.key (keyOf_inst (wf_small (by omega) (by omega)) (wf_small (by omega) (by omega))))]
    simp
  · rw [Maps.sameKey_ne (kl_ne h1 h2 e)]
    symm
    simpa using e

/-- One instance has come: it is settled. -/
theorem swept_stays {T : List (List RowD)} (hT : T.length ≤ 5) (hR6 : ∀ R ∈ T, R.length ≤ 6) {left : Lit → Bool} {p q : Nat} (hi : inT T p q = true) (hc : instCom T p q = true) (p' q' : Nat) :
    sweptT T (fun z => left z && !z.sameKey (kl (p : Int) ((q : Int) + 1))) p' q' = sweptT T left p' q' := by
  unfold sweptT
  cases hi' : inT T p' q' with
  | false => rfl
  | true =>
    have h1 := inT_low hT hR6 hi
    have h2 := inT_low hT hR6 hi'
    simp only [Bool.true_and]
    rw [same_kl (by omega) (by omega)]
    by_cases e : p' = p ∧ q' = q
    · obtain ⟨rfl, rfl⟩ := e
      rw [hc]; rfl
    · have : (decide (p' = p) && decide (q' = q)) = false := by simpa using e
      rw [this]
      simp
/-- .. it is not. -/
theorem swept_goes {T : List (List RowD)} (hT : T.length ≤ 5) (hR6 : ∀ R ∈ T, R.length ≤ 6) {left : Lit → Bool} {p q : Nat} (hi : inT T p q = true) (hc : instCom T p q = false) (p' q' : Nat) :
    sweptT T (fun z => left z && !z.sameKey (kl (p : Int) ((q : Int) + 1))) p' q' = (sweptT T left p' q' && !(decide (p' = p) && decide (q' = q))) := by
  unfold sweptT
  cases hi' : inT T p' q' with
  | false => rfl
  | true =>
    have h1 := inT_low hT hR6 hi
    have h2 := inT_low hT hR6 hi'
    simp only [Bool.true_and]
    rw [same_kl (by omega) (by omega)]
    by_cases e : p' = p ∧ q' = q
    · obtain ⟨rfl, rfl⟩ := e
      rw [hc]; simp
    · have : (decide (p' = p) && decide (q' = q)) = false := by simpa using e
      rw [this]
      simp

theorem swept_start {T : List (List RowD)} {D : DataW Value} {f : Nat → Nat → Value} (h : MapOf D (inT T) f) (p q : Nat) : sweptT T (Maps.has D) p q = inT T p q := by
  unfold sweptT
  cases hi : inT T p q with
  | false => rfl
  | true => rw [h.has p q hi]; simp
theorem swept_end {T : List (List RowD)} {left : Lit → Bool} (h : ∀ l, left l = false) (p q : Nat) : instCom T p q = sweptT T left p q := by
  unfold sweptT
  rw [h]
  cases hi : instCom T p q with
  | false => simp
  | true => rw [instCom_inT hi]; rfl
theorem swept_in {T : List (List RowD)} {left : Lit → Bool} {p q : Nat} (h : sweptT T left p q = true) : inT T p q = true := by
  unfold sweptT at h
  rw [Bool.and_eq_true] at h
  exact h.1

set_option maxHeartbeats 4000000 in
set_option maxRecDepth 100000 in
theorem committedIn_any (n : Int) (u : Value) (T : List (List RowD)) (U : Nat → Nat → Value) (w : World) (hu : TabAt w u T U) (hT : T.length ≤ 5) (hR6 : ∀ R ∈ T, R.length ≤ 6) :
    Calls Try.prog 61 #[.agg #[.int .i64 n, u]] w (NewRowMap T (instCom T) (rowF n T U) w) := by
  have HL := Lib.hid (hu.lists n)
  have HU := Lib.hid (hu.ext (Ext.alloc1 w (.cells #[.int .i64 n, u] 48)))
  have H5 := Lib.hid hT
  have H6 := Lib.hid hR6
  obtain ⟨au, cu, rfl, hlu, _, _⟩ := hu
  unfold maxLen at hlu
  clear hR6
  go_enter Try.func61, Try.ntmps61
  go_wp2_with fail
  refine (rowsIn_any n _ T U _ HU.out hT H6.out).mono ?_
  rintro e w1 ⟨B, D0, rfl, m1, d1, hb1, x1⟩
  have hx1 : Ext w w1 := (Ext.alloc1 _ _).trans x1
  have hB : w.heap.size ≤ B := Nat.le_trans (Ext.alloc1 w (.cells #[.int .i64 n, .slice au T.length cu] 48)).size hb1
  have M1 := Lib.hid m1
  have D1 := Lib.hid d1
  have X1 := Lib.hid hx1
  clear m1 d1 hx1 x1 hb1
  go_wp2_with (first | (at_range; refine wpList_range_own _ rfl _ 81 rfl 101 90 instKeyed Try.underlying81 asIs B 30 D0 rfl M1.out ?_; intro w2 hrg2 hg2 hs2) | go_in)
  go_frame
  have X2 := Lib.hid (X1.out.trans (ext_of_grown hg2))
  have R2 := Lib.hid hrg2
  have X1' := X1.out
  clear hrg2 hg2 hs2 M1 X1
  obtain ⟨r, hr⟩ : ∃ r, r = w1.heap.size := ⟨_, rfl⟩
  rw [← hr] at R2 ⊢
  have hrb : w.heap.size ≤ r := by rw [hr]; exact X1'.size
  clear hr X1'
  go_loopw [4, 5] (fun _ _ wr => ∃ (D : DataW Value) (left : Lit → Bool) (cnt : Nat), Hid (RowRange wr B r 30 D left cnt) ∧ Hid (MapOf D (sweptT T left) (rowF n T U)) ∧ Hid (Ext w wr)) (fun _ _ wr => wr.rangeLeft B r)
  case atStart => exact ⟨D0, _, _, R2, Lib.hid (D1.out.congr (fun p q => swept_start D1.out p q) (fun _ _ _ => rfl)), X2⟩
  case round =>
    clear R2 D1 X2
    obtain ⟨D, left, cnt, R, M, X⟩ := hrel
    go_wp2_with (first | (at_next; refine wpList_next_inst _ rfl _ rfl B r 30 D left cnt _ _ rfl R.out M.out ?_ ?_) | go_in)
    · intro hl
      have M' := Lib.hid (M.out.congr (S' := instCom T) (f' := rowF n T U) (fun p q => swept_end hl p q) (fun _ _ _ => rfl))
      have R' := Lib.hid R.out.owns
      clear M R
      go_wp2
      go_ret
      exact ⟨_, D, rfl, R'.out, M'.out, hB, X.out⟩
    · intro p q w3 cnt3 hS hlk hrg3 hlt hg3 hs3 hen
      have hi := swept_in hS
      have hx3 : Ext w w3 := X.out.turned hg3 hrb
      obtain ⟨ay, cy, hU, _⟩ := HL.out p q hi
      unfold rowF rowV at hen ⊢
      rw [hU] at hen ⊢
      have R3 := Lib.hid hrg3
      have X3 := Lib.hid hx3
      have hcom : instCom T p q = ((rowOf n T p q).st == 3) := instCom_row hi
      obtain ⟨d, hd⟩ : ∃ d, d = rowOf n T p q := ⟨_, rfl⟩
      rw [← hd] at hen hcom ⊢
      have hlow := inT_low hT H6.out hi
      have HI := Lib.hid hi
      have HLT := Lib.hid hlt
      have HRO := Lib.hid R.out
      clear hrg3 hx3 hg3 hs3 hlk hd hU R X hS hi hlt
      cases hst : (d.st == 3) with
      | true =>
        rw [hst] at hcom
        have M3 := Lib.hid (M.out.congr (S' := sweptT T (fun z => left z && !z.sameKey (kl (p : Int) ((q : Int) + 1)))) (f' := rowF n T U) (fun p' q' => swept_stays hT H6.out HI.out hcom p' q') (fun _ _ _ => rfl))
        have h3 : d.st = 3 := by simpa using hst
        have ns : (d.st != 3) = false := by simp [h3]
        clear hcom M hst h3
        go_wp2
        go_roundw
        case rel => exact ⟨D, _, _, Lib.hid (((R3.out).alloc _).alloc _), M3, Lib.hid ((X3.out.alloc _).alloc _)⟩
        case measure => rw [((R3.out.alloc _).alloc _).left_eq, HRO.out.left_eq]; exact HLT.out
      | false =>
        rw [hst] at hcom
        have M3 := Lib.hid ((M.out.del (p := p) (q := q) (by omega)).congr (S' := sweptT T (fun z => left z && !z.sameKey (kl (p : Int) ((q : Int) + 1)))) (f' := rowF n T U) (fun p' q' => swept_goes hT H6.out HI.out hcom p' q') (fun _ _ _ => rfl))
        have h3 : ¬ d.st = 3 := by simpa using hst
        have ns : (d.st != 3) = true := by simp [h3]
        clear hcom M hst h3
        go_wp2_with (first | (at_delete; refine wpList_delete_ranges _ rfl _ _ 81 101 rfl 90 instKeyed Try.underlying81 asIs B r 30 D _ _ rfl ((R3.out.alloc _).alloc _) _ (kl (p : Int) ((q : Int) + 1)) rfl (keyOf_inst (wf_small (by omega) (by omega)) (wf_small (by omega) (by omega))) ?_; intro w4 cnt4 hrg4 hle ht4; go_frame) | go_in)
        rw [Maps.strike_twice] at hrg4
        have R4 := Lib.hid hrg4
        have X4 : Hid (Ext w w4) := Lib.hid (((X3.out.alloc _).alloc _).turned ht4.grown hB)
        have HLE := Lib.hid hle
        clear hrg4 ht4 hle R3 X3
        go_wp2
        go_roundw
        case rel => exact ⟨_, _, _, R4, M3, X4⟩
        case measure => rw [R4.out.left_eq, HRO.out.left_eq]; exact Nat.lt_of_le_of_lt HLE.out HLT.out

end Go.Proofs.Ytihknedmkkakhaa

namespace Go.Proofs.Ytihknedmkkakhaa
open Go.RowKit Go.Maps
set_option linter.unusedVariables false

set_option maxHeartbeats 1000000 in
theorem hangs_any (s : Int) (v : Value) (l : List Int) (p q : Nat) (w : World) (hv : Ints w v l) (hp : p < l.length) (hq : q ≤ 1048576) :
    Calls Try.prog 88 #[.agg #[.int .i64 s, v], .agg #[.int .i64 p, .int .i64 ((q : Int) + 1)]] w (BoolExt (decide ((q : Int) + 1 ≤ l[p]?.getD 0)) w) := by
  obtain ⟨av, cv, rfl, hlv, _, hcv⟩ := hv
  unfold maxLen at hlv
  obtain ⟨bv, ov, rfl, dv⟩ := hcv (by omega)
  have gv := ((Ext.alloc1 w (.cells #[.int .i64 s, .slice (some ⟨bv, ov, none⟩) l.length cv] 88)).alloc (.cells #[.int .i64 p, .int .i64 ((q : Int) + 1)] 101)).cell (dv p hp)
  obtain ⟨x, hx⟩ : ∃ x, x = l[p]?.getD 0 := ⟨_, rfl⟩
  rw [← hx] at gv ⊢
  have hx1 : Ext w ((w.alloc (.cells #[.int .i64 s, .slice (some ⟨bv, ov, none⟩) l.length cv] 88)).alloc (.cells #[.int .i64 p, .int .i64 ((q : Int) + 1)] 101)) := (Ext.alloc1 _ _).alloc _
  have HX := Lib.hid hx1
  clear dv hcv hx hx1
  go_enter Try.func88, Try.ntmps88
  go_wp2_with fail
  go_quiet (fail)
  go_wp2
  go_ret
  exact ⟨rfl, HX.out.drewN _⟩

set_option maxHeartbeats 1000000 in
theorem doInterfere_any (r r' : RowD) (u u' : Value) (w : World) (hu : ∃ a l c, u = .slice a l c) (hu' : ∃ a l c, u' = .slice a l c) :
    Calls Try.prog 86 #[rowV r u, rowV r' u'] w (BoolExt ((goodB r.k r.i r.f r.t r.a && goodB r'.k r'.i r'.f r'.t r'.a) && interB r.k r.f r.t r'.k r'.f r'.t) w) := by
  obtain ⟨a, l, c, rfl⟩ := hu
  obtain ⟨a', l', c', rfl⟩ := hu'
  unfold rowV
  go_enter Try.func86, Try.ntmps86
  go_wp2_with fail
  refine (implInterfere_any _ _ _ _ _ _ _ _ _ _ _).mono ?_
  rintro e w1 ⟨rfl, x1⟩
  have HX := Lib.hid ((Ext.alloc2 w _ _).trans x1)
  clear x1
  go_wp2
  go_ret
  exact ⟨rfl, HX.out⟩

end Go.Proofs.Ytihknedmkkakhaa

namespace Go.Proofs.Ytihknedmkkakhaa
open Go.RowKit
set_option linter.unusedVariables false

/-- A world that is W with new blocks. -/
def ExtOf (W : World) := {w' : World // Ext W w'}
instance (W : World) : Nonempty (ExtOf W) := ⟨⟨W, Ext.refl W⟩⟩
theorem ExtOf.cell {W : World} (e : ExtOf W) {a : Addr} {v : Value} (h : W.cell? a = some v) : e.1.cell? a = some v := Ext.cell e.2 h
theorem wp_region_ext_lit {P : Program} {id : Nat} {Q : Exit → Act → World → Prop} {a : Act} {w : World} {l : List Oper} (hm : P.follows .mixedOrders = true) (hB : Region.lexB .any l.toArray = true)
    (h : wpQuiet P l.toArray (fun w' => ∃ e : ExtOf w, w' = e.1) (fun a' => ∀ w', (∃ e : ExtOf w, w' = e.1) → Q .normal a' w') l a) : (Code.region id l.toArray true).wp P Q a w :=
  wp_region_quiet (C := fun w' => ∃ e : ExtOf w, w' = e.1) hm hB ⟨⟨w.drew, Ext.drew (Ext.refl w)⟩, rfl⟩ (by simpa using h)
/-- A callee's contract, met in such a world. -/
theorem Calls.ext_of {P : Program} {f : FuncId} {args : Array Value} {W : World} {v : Value} (e : ExtOf W)
    (h : Calls P f args e.1 fun x w' => x = .returned v ∧ Ext e.1 w') : Calls P f args e.1 fun x w'' => x = .returned v ∧ ∃ e' : ExtOf W, w'' = e'.1 :=
  h.mono fun _ w' ⟨he, hx⟩ => ⟨he, ⟨w', e.2.trans hx⟩, rfl⟩

end Go.Proofs.Ytihknedmkkakhaa
