/- Texts of this proof, part g: words, plain facts, contracts. -/
import Derived.Test.YtcpmfcigciknlaaGreatMBookOff
import Derived.Test.YtcpmfcigciknlaaGreatMBookOfe
import Derived.Maps.AppendAt
import Derived.Test.YtcpmfcigciknlaaGreatMBookOfa
import Derived.Deep.Cut
import Derived.Test.YtcpmfcigciknlaaGreatMBookOfc
import Derived.Test.YtcpmfcigciknlaaGreatShelf

namespace Go.Proofs.YtcpmfcigciknlaaGreat
open Go.RowKit Go.Maps
set_option linter.unusedVariables false

theorem set_nextI (vs : List Value) (z n : Value) (k m : Nat) (hk : vs.length = k) (hm : k < m) : (vs ++ List.replicate (m - k) n).set k z = (vs ++ [z]) ++ List.replicate (m - (k + 1)) n := by
  rw [List.set_append_right _ _ (by omega), hk, Nat.sub_self]
  have e : m - k = (m - (k + 1)) + 1 := by omega
  rw [e, List.replicate_succ, List.set_cons_zero]
  simp

set_option maxHeartbeats 2000000 in
set_option maxRecDepth 100000 in
theorem pairsOf_any (u : Value) (I : List (Nat × Nat)) (w : World) (hu : InstsAt w u I) (hI : I.length ≤ 1048576) :
    Calls Tryz.prog 61 #[u] w (NewIntss (I.map pairOf) w) := by
  obtain ⟨L, hL⟩ : ∃ L, L = I.map pairOf := ⟨_, rfl⟩
  have hl : L.length = I.length := by rw [hL]; simp
  obtain ⟨au, cu, rfl, hlu, _, hcu⟩ := hu
  unfold maxLen at hlu
  obtain ⟨i0, hi, hz0, hz1, hz2⟩ := info_parts Tryz.infoInts
  have HLI := Lib.hid hL
  have HI := Lib.hid hI
  rw [← hL]
  clear hL
  rw [← hl] at hlu ⊢
  have HCU := Lib.hid hcu
  have HLL := Lib.hid hl
  have hL2 : L.length ≤ 1048576 := by omega
  clear hcu hl hI
  go_enter Tryz.func61, Tryz.ntmps61
  go_wp2_with (at_make; refine wpList_make_full _ rfl _ _ 63 rfl w.heap.size 26 i0 (.slice none 0 0) 1 Tryz.underlying63 hi hz0 hz1 _ _ _ _ L.length rfl rfl rfl rfl ?c1 ?c2 ?c3 ?_)
  case c1 => rw [hz2]; omega
  case c2 => unfold maxLen; omega
  case c3 => simp
  intro w1 ho1 hg1
  have hx1 : Ext w w1 := ext_of_grown hg1
  have ho : w1.ownsRow w.heap.size 26 1 (.slice (some ⟨w.heap.size, 0, none⟩) L.length L.length) L.length (([] : List Value) ++ List.replicate (L.length - 0) (.slice none 0 0)) := by
    rw [toList_madeCells_one] at ho1
    simpa using ho1
  have hsz : w.heap.size < w1.heap.size := by
    rcases ho1.2 with ⟨h, _⟩ | ⟨g, cap, cur, h, hb, hg, _⟩
    · cases h
    · simp only [Value.slice.injEq, Option.some.injEq, Addr.mk.injEq, and_true, true_and] at h
      obtain ⟨rfl, _⟩ := h
      exact (Array.getElem?_eq_some_iff.1 hg).1
  clear ho1 hg1 hz0 hz1 hz2 hi
  go_wp2
  go_loopw [11] (fun i wr => ∃ (k : Nat) (vs : List Value), k ≤ L.length ∧ i = .int .i64 k ∧ wr.ownsRow w.heap.size 26 1 (.slice (some ⟨w.heap.size, 0, none⟩) L.length L.length) L.length (vs ++ List.replicate (L.length - k) (.slice none 0 0)) ∧ Rows_ (w.heap.size + 1) wr vs (L.take k) ∧ w.heap.size < wr.heap.size ∧ Ext w wr) (fun i _ => L.length - (intOf i).toNat)
  case atStart => exact ⟨0, [], Nat.zero_le _, rfl, ho, by simpa using Rows_.nil _ _, hsz, hx1⟩
  case round =>
    clear ho hx1 hsz
    obtain ⟨k, vs, hk, rfl, ho, hR, hsz, hx⟩ := hrel
    have hvl : vs.length = k := by rw [hR.len]; simp; omega
    by_cases hlt : k < L.length
    · obtain ⟨bu, ou, rfl, du⟩ := HCU.out (by have := HLL.out; omega)
      have hki : k < I.length := by have := HLL.out; omega
      obtain ⟨q0, q1⟩ := du k hki
      obtain ⟨x, hx1⟩ : ∃ x, x = I[k] := ⟨_, rfl⟩
      rw [← hx1] at q0 q1
      have eLk : L[k] = pairOf x := by simp only [HLI.out, List.getElem_map, hx1]
      have HE := Lib.hid eLk
      have g0 := hx.cell q0
      have g1 := hx.cell q1
      have HO := Lib.hid ho
      have HR := Lib.hid hR
      have HV := Lib.hid hvl
      clear du q0 q1 hx1 eLk ho hR hvl
      have x2 : Ext wr ((wr.alloc (.cells #[.int .i64 x.1, .int .i64 ((x.2 : Int) + 1)] 101)).alloc (.cells #[.int .i64 x.1, .int .i64 ((x.2 : Int) + 1)] 3)) := Ext.alloc2 _ _ _
      have f2 : Fresh wr.heap.size ((wr.alloc (.cells #[.int .i64 x.1, .int .i64 ((x.2 : Int) + 1)] 101)).alloc (.cells #[.int .i64 x.1, .int .i64 ((x.2 : Int) + 1)] 3)) (.slice (some ⟨wr.heap.size + 1, 0, none⟩) 2 2) L[k] := by
        rw [HE.out]
        exact fresh_lit2 wr _ (pairOf x) 2 #[.int .i64 x.1, .int .i64 ((x.2 : Int) + 1)] rfl rfl (by simp [pairOf])
      have F2 := Lib.hid f2
      have X2 := Lib.hid x2
      have ho2 := x2.ownsRow HO.out
      have hlen2 : (vs ++ List.replicate (L.length - k) (Value.slice none 0 0)).length = L.length := by simp [HV.out]; omega
      have gs := (ho2.cellAt k (by omega)).trans (show _ = some (Value.slice none 0 0) by
        rw [List.getElem?_append_right (by have := HV.out; omega)]
        rw [List.getElem?_replicate, if_pos (by have := HV.out; omega)])
      have gf := ho2.frozenAt k
      have hst0 := ho2.stored k (.slice (some ⟨wr.heap.size + 1, 0, none⟩) 2 2)
      have hext0 : Ext w (((wr.alloc (.cells #[.int .i64 x.1, .int .i64 ((x.2 : Int) + 1)] 101)).alloc (.cells #[.int .i64 x.1, .int .i64 ((x.2 : Int) + 1)] 3)).setCell ⟨w.heap.size, k, none⟩ (.slice (some ⟨wr.heap.size + 1, 0, none⟩) 2 2)) := Below.setCell (hx.trans x2) (Nat.le_refl _) _
      have ecm : ((wr.alloc (.cells #[.int .i64 x.1, .int .i64 ((x.2 : Int) + 1)] 101)).alloc (.cells #[.int .i64 x.1, .int .i64 ((x.2 : Int) + 1)] 3)).setCell ⟨w.heap.size, k, none⟩ (.slice (some ⟨wr.heap.size + 1, 0, none⟩) 2 2) = ((wr.setCell ⟨w.heap.size, k, none⟩ (.slice (some ⟨wr.heap.size + 1, 0, none⟩) 2 2)).alloc (.cells #[.int .i64 x.1, .int .i64 ((x.2 : Int) + 1)] 101)).alloc (.cells #[.int .i64 x.1, .int .i64 ((x.2 : Int) + 1)] 3) := by
        rw [World.setCell_alloc_past (hn := by simp; omega), World.setCell_alloc_past (hn := hsz)]
      rw [ecm] at hst0 hext0
      have HST := Lib.hid hst0
      have HEX := Lib.hid hext0
      clear hlen2 f2 x2 ho2 hst0 hext0 ecm
      go_wp2
      go_roundw
      case rel =>
        have hst := HST.out
        rw [set_nextI vs _ _ k L.length HV.out hlt] at hst
        have hsn := HR.out.snoc X2.out F2.out (by omega)
        have htk : L.take k ++ [L[k]] = L.take (k + 1) := by rw [List.take_add_one, List.getElem?_eq_getElem hlt]; rfl
        rw [htk] at hsn
        refine ⟨k + 1, _, by omega, by go_num, hst.1, hsn.touch hst.2 (hsn.low (by omega)), ?_, HEX.out⟩
        have := X2.out.size
        have := hst.2.size
        omega
      case measure => simp [intOf]; omega
    · obtain rfl : k = L.length := by omega
      have HO := Lib.hid ho
      have HR := Lib.hid hR
      clear ho hR
      go_wp2
      go_ret
      refine ⟨_, rfl, ⟨vs, ?_, ?_, ?_⟩, hx⟩
      · have h := HO.out
        rw [Nat.sub_self] at h
        simpa using h
      · have h := HR.out
        rw [List.take_length] at h
        exact h.more (by omega)
      · exact HR.out.low (g := w.heap.size) (by omega)

end Go.Proofs.YtcpmfcigciknlaaGreat

namespace Go.Proofs.YtcpmfcigciknlaaGreat
open Go.RowKit
set_option linter.unusedVariables false

/-- x hangs on y, another one. -/
def edgeB (n : Int) (T : List (List RowD)) (x y : Nat × Nat) : Bool := !(decide (x = y)) && decide ((y.2 : Int) + 1 ≤ depI (rowOf n T x.1 x.2) y.1)
/-- Those of the first k on which x hangs. -/
def rowE (n : Int) (T : List (List RowD)) (L : List (Nat × Nat)) (x : Nat × Nat) (k : Nat) : List Int := ((List.range k).filter fun j => edgeB n T x (L[j]?.getD (0, 0))).map fun (j : Nat) => (j : Int)
def graphP (n : Int) (T : List (List RowD)) (L : List (Nat × Nat)) : List (List Int) := L.map fun x => rowE n T L x L.length
theorem rowE_zero (n : Int) (T : List (List RowD)) (L : List (Nat × Nat)) (x : Nat × Nat) : rowE n T L x 0 = [] := rfl
theorem rowE_succ {n : Int} {T : List (List RowD)} {L : List (Nat × Nat)} {x : Nat × Nat} {k : Nat} (h : k < L.length) : rowE n T L x (k + 1) = rowE n T L x k ++ if edgeB n T x L[k] then [(k : Int)] else [] := by
  unfold rowE
  rw [List.range_succ, List.filter_append, List.map_append]
  congr 1
  have e : L[k]?.getD (0, 0) = L[k] := by simp [h]
  cases hb : edgeB n T x L[k] <;> simp [hb, h]
theorem rowE_len (n : Int) (T : List (List RowD)) (L : List (Nat × Nat)) (x : Nat × Nat) (k : Nat) : (rowE n T L x k).length ≤ k := by
  unfold rowE
  rw [List.length_map]
  have := List.length_filter_le (fun j => edgeB n T x (L[j]?.getD (0, 0))) (List.range k)
  simpa using this
/-- While the graph is made: k rows are whole, of the next one the first j are looked at. -/
def halfG (n : Int) (T : List (List RowD)) (L : List (Nat × Nat)) (k j : Nat) : List (List Int) := (List.range L.length).map fun i => if i < k then rowE n T L (L[i]?.getD (0, 0)) L.length else if i = k then rowE n T L (L[i]?.getD (0, 0)) j else []
theorem halfG_len (n : Int) (T : List (List RowD)) (L : List (Nat × Nat)) (k j : Nat) : (halfG n T L k j).length = L.length := by simp [halfG]
theorem halfG_at {n : Int} {T : List (List RowD)} {L : List (Nat × Nat)} {k : Nat} (j : Nat) (h : k < L.length) : (halfG n T L k j)[k]? = some (rowE n T L L[k] j) := by simp [halfG, h]
theorem halfG_set {n : Int} {T : List (List RowD)} {L : List (Nat × Nat)} {k : Nat} (j : Nat) (h : k < L.length) : halfG n T L k (j + 1) = (halfG n T L k j).set k (rowE n T L L[k] (j + 1)) := by
  apply List.ext_getElem?
  intro i
  rw [List.getElem?_set]
  unfold halfG
  by_cases e : k = i
  · subst e
    simp [h]
  · by_cases hi : i < L.length
    · simp [hi, e, Ne.symm e]
    · simp [hi, e]
theorem halfG_stay {n : Int} {T : List (List RowD)} {L : List (Nat × Nat)} {k : Nat} (j : Nat) (h : k < L.length) (he : rowE n T L L[k] (j + 1) = rowE n T L L[k] j) : halfG n T L k (j + 1) = halfG n T L k j := by
  rw [halfG_set j h, he]
  apply List.ext_getElem?
  intro i
  rw [List.getElem?_set]
  by_cases e : k = i
  · subst e
    rw [if_pos rfl, if_pos (by rw [halfG_len]; exact h), halfG_at j h]
  · rw [if_neg e]
theorem halfG_next {n : Int} {T : List (List RowD)} {L : List (Nat × Nat)} {k : Nat} : halfG n T L k L.length = halfG n T L (k + 1) 0 := by
  apply List.ext_getElem?
  intro i
  unfold halfG
  by_cases hi : i < L.length
  · simp only [List.getElem?_map, List.getElem?_range hi, Option.map_some, Option.some.injEq]
    by_cases h1 : i < k
    · rw [if_pos h1, if_pos (by omega)]
    · rw [if_neg h1]
      by_cases h2 : i = k
      · rw [if_pos h2, if_pos (by omega)]
      · rw [if_neg h2, if_neg (by omega)]
        by_cases h3 : i = k + 1
        · rw [if_pos h3, rowE_zero]
        · rw [if_neg h3]
  · simp [hi]
theorem halfG_zero (n : Int) (T : List (List RowD)) (L : List (Nat × Nat)) : halfG n T L 0 0 = List.replicate L.length [] := by
  apply List.ext_getElem?
  intro i
  unfold halfG
  by_cases hi : i < L.length
  · simp only [List.getElem?_map, List.getElem?_range hi, Option.map_some, List.getElem?_replicate, if_pos hi, Option.some.injEq]
    rw [if_neg (by omega)]
    by_cases h2 : i = 0
    · rw [if_pos h2, rowE_zero]
    · rw [if_neg h2]
  · simp [hi]
theorem halfG_all (n : Int) (T : List (List RowD)) (L : List (Nat × Nat)) : halfG n T L L.length 0 = graphP n T L := by
  apply List.ext_getElem?
  intro i
  unfold halfG graphP
  by_cases hi : i < L.length
  · simp [hi]
  · simp [hi]

/-! ### In place -/
theorem Rows_.push {B k : Nat} {w w' : World} {vs : List Value} {L : List (List Int)} {z v' : Value} {l : List Int} (h : Rows_ B w vs L) (hz : vs[k]? = some z) (t : w.grownBy w' z.ownBlock) (hv : Fresh B w' v' l)
    (hloc : v'.ownBlock = z.ownBlock ∨ v'.ownBlock = some w.heap.size) : Rows_ B w' (vs.set k v') (L.set k l) := by
  have hk : k < vs.length := (List.getElem?_eq_some_iff.1 hz).1
  have hkL : k < L.length := by rw [← h.len]; exact hk
  have low : ∀ (j : Nat) (u : Value), vs[j]? = some u → ∀ g, u.ownBlock = some g → g < w.heap.size := fun j u hu g hg => by
    have hj := (List.getElem?_eq_some_iff.1 hu).1
    exact (World.ownsRow.lt (h.row j u _ hu (List.getElem?_eq_getElem (by rw [← h.len]; exact hj))) g hg).2
  refine ⟨by rw [List.length_set, List.length_set]; exact h.len, fun j u r hu hr => ?_, fun i j u y hij hu hy => ?_⟩
  · rw [List.getElem?_set] at hu hr
    by_cases e1 : k = j
    · rw [if_pos e1, if_pos hk] at hu
      rw [if_pos e1, if_pos hkL] at hr
      rw [← Option.some.inj hu, ← Option.some.inj hr]
      exact hv
    · rw [if_neg e1] at hu hr
      exact World.ownsRow.kept (h.row j u r hu hr) t (h.apart j k u z (fun e => e1 e.symm) hu hz)
  · rw [List.getElem?_set] at hu hy
    by_cases e1 : k = i
    · by_cases e2 : k = j
      · omega
      · rw [if_pos e1, if_pos hk] at hu
        rw [if_neg e2] at hy
        cases hu
        rcases hloc with e | e
        · rw [e]; exact h.apart k j z y (fun e' => e2 e') hz hy
        · rw [e]
          exact .inr (fun e' => by have := low j y hy _ e'.symm; omega)
    · rw [if_neg e1] at hu
      by_cases e2 : k = j
      · rw [if_pos e2, if_pos hk] at hy
        cases hy
        cases hb : u.ownBlock with
        | none => exact .inl rfl
        | some g =>
          refine .inr (fun e' => ?_)
          rcases hloc with e | e
          · rcases h.apart i k u z (fun e' => e1 e'.symm) hu hz with h0 | h0
            · rw [hb] at h0; cases h0
            · exact h0 (by rw [hb, e', e])
          · rw [e] at e'
            cases e'
            have := low i u hu _ hb
            omega
      · rw [if_neg e2] at hy
        exact h.apart i j u y hij hu hy

/-- append(s, x), s of the call's own: and where the new slice lies. -/
theorem wpList_pushAt {ops : Array Oper} {rest : List Oper} {o : Oper} {a : Act} {Q : Exit → Act → World → Prop} {w : World} (hgd : o.guard = none) (s x : Operand)
    (ho : o.op = .call { callee := .builtin .append, args := #[s, x], argTypes := #[26, 26] })
    (B : Nat) (v : Value) (l : List Int) (n : Int) (hs : a.eval s = v) (hf : Fresh B w v l) (ad : Addr) (c : Nat) (hx : a.eval x = .slice (some ad) 1 c)
    (hc : w.cell? ad = some (.int .i64 n)) (hl : l.length ≤ 1099511627776) (hB : B ≤ w.heap.size)
    (h : ∀ v' w', Fresh B w' v' (l ++ [n]) → w.grownBy w' v.ownBlock → Kept B w w' → (v'.ownBlock = v.ownBlock ∨ v'.ownBlock = some w.heap.size) → wpList Tryz.prog ops Q rest (a.put o.dst v') w') : wpList Tryz.prog ops Q (o :: rest) a w := by
  obtain ⟨i0, hi, hz0, hz1, hz2⟩ := info_parts Tryz.infoInt
  refine wpList_append_own_at _ hgd s x 26 ho B 3 i0 (.int .i64 0) 1 8 Tryz.underlying26 hi hz0 hz1 hz2 rfl (by decide) v l.length _ hs hf ad 1 c [.int .i64 n] hx rfl ?_ ?_ ?_ ?_ hB ?_
  · intro j u hj
    match j, hj with
    | 0, hj => simp at hj; subst hj; simpa [Addr.add] using hc
  · intro u hu; simp at hu; subst hu; rfl
  · unfold maxLen; omega
  · omega
  · intro v' w' ho' hg _ hloc
    refine h v' w' ?_ hg (fun w0 hx0 hB0 => Below.grown hx0 hg hx0.size (fun q hq => Nat.le_trans hB0 (World.ownsRow.lt hf q hq).1)) hloc
    unfold Fresh
    rw [List.map_append, List.length_append]; exact ho'

end Go.Proofs.YtcpmfcigciknlaaGreat

namespace Go.Proofs.YtcpmfcigciknlaaGreat
open Go.RowKit Go.Maps
set_option linter.unusedVariables false

/-- The instances ahead of (k, j). -/
def tillT (T : List (List RowD)) (k j p q : Nat) : Bool := inT T p q && (decide (p < k) || (decide (p = k) && decide (q < j)))
theorem tillT_zero (T : List (List RowD)) (p q : Nat) : tillT T 0 0 p q = false := by simp [tillT]
theorem tillT_step {T : List (List RowD)} {k j : Nat} (hk : k < T.length) (hj : j < T[k].length) (p q : Nat) :
    tillT T k (j + 1) p q = (tillT T k j p q || (decide (p = k) && decide (q = j))) := by
  unfold tillT
  by_cases e : p = k ∧ q = j
  · obtain ⟨rfl, rfl⟩ := e
    rw [inT_mk hk hj]
    simp
  · have h1 : (decide (p = k) && decide (q = j)) = false := by simpa using e
    rw [h1, Bool.or_false]
    congr 1
    rw [Bool.eq_iff_iff]
    simp
    omega
theorem tillT_next {T : List (List RowD)} {k : Nat} (hk : k < T.length) (p q : Nat) : tillT T (k + 1) 0 p q = tillT T k T[k].length p q := by
  unfold tillT
  cases hi : inT T p q with
  | false => rfl
  | true =>
    obtain ⟨hp, hq⟩ := inT_of hi
    rw [Bool.eq_iff_iff]
    simp
    by_cases e : p = k
    · subst e
      simp [hq]
    · omega
theorem tillT_all {T : List (List RowD)} (p q : Nat) : tillT T T.length 0 p q = inT T p q := by
  unfold tillT
  cases hi : inT T p q with
  | false => rfl
  | true =>
    obtain ⟨hp, hq⟩ := inT_of hi
    simp [hp]

/-- A map of a table's instances comes back, in new memory. -/
def NewRowMap (T : List (List RowD)) (S : Nat → Nat → Bool) (f : Nat → Nat → Value) (w : World) (e : Ending) (w' : World) : Prop :=
  ∃ b D, e = .returned (.map (some b)) ∧ RowMap w' b 30 D ∧ MapOf D S f ∧ w.heap.size ≤ b ∧ Ext w w'

theorem Ext.turned {w0 w w' : World} {b : Nat} (h : Ext w0 w) (t : w.grownBy w' (some b)) (hb : w0.heap.size ≤ b) : Ext w0 w' := Below.grown h t h.size (fun k hk => by cases hk; exact hb)

set_option maxHeartbeats 4000000 in
set_option maxRecDepth 100000 in
theorem rowsIn_any (n : Int) (u : Value) (T : List (List RowD)) (U : Nat → Nat → Value) (w : World) (hu : TabAt w u T U) (hT : T.length ≤ 5) (hR6 : ∀ R ∈ T, R.length ≤ 6) :
    Calls Tryz.prog 142 #[.agg #[.int .i64 n, u]] w (NewRowMap T (inT T) (rowF n T U) w) := by
  obtain ⟨au, cu, rfl, hlu, _, hcu⟩ := hu
  unfold maxLen at hlu
  have H6 := Lib.hid hR6
  clear hR6
  have hmm := @run_makeMap Tryz.prog
  have hx0 : Ext w ((w.alloc (.cells #[.int .i64 n, .slice au T.length cu] 32)).alloc (.map #[] 0)) := Ext.alloc (Ext.alloc1 _ _) _
  have hm0 : RowMap ((w.alloc (.cells #[.int .i64 n, .slice au T.length cu] 32)).alloc (.map #[] 0)) (w.heap.size + 1) 0 (.map []) := by
    have h := World.ownsMap_made (w.alloc (.cells #[.int .i64 n, .slice au T.length cu] 32)) Tryz.prog 101 asIs
    simpa using h
  have HX0 := Lib.hid hx0
  have HM0 := Lib.hid hm0
  clear hx0 hm0
  go_enter Tryz.func142, Tryz.ntmps142
  go_wp2
  go_loopw [12] (fun i wr => ∃ (k : Nat) (D : DataW Value), k ≤ T.length ∧ i = .int .i64 k ∧ Hid (RowMap wr (w.heap.size + 1) (6 * k) D) ∧ Hid (MapOf D (tillT T k 0) (rowF n T U)) ∧ Ext w wr) (fun i _ => T.length - (intOf i).toNat)
  case atStart => exact ⟨0, _, Nat.zero_le _, rfl, HM0, Lib.hid ((MapOf.empty (rowF n T U)).congr (fun p q => tillT_zero T p q) (fun _ _ h => by cases h)), HX0.out⟩
  case round =>
    clear HM0 HX0
    obtain ⟨k, D, hk, rfl, HM, HD, hx⟩ := hrel
    by_cases hlt : k < T.length
    · obtain ⟨bu, ou, rfl, du⟩ := hcu (by omega)
      obtain ⟨x, hx1, ix⟩ := du k hlt
      have gu := hx.cell hx1
      obtain ⟨R, hR⟩ : ∃ R, R = T[k] := ⟨_, rfl⟩
      rw [← hR] at ix
      have hl6 : R.length ≤ 6 := by rw [hR]; exact H6.out _ (List.getElem_mem hlt)
      obtain ⟨ax, cx, rfl, hlx, _, hcx⟩ := ix
      unfold maxLen at hlx
      have HR := Lib.hid hR
      have HX := Lib.hid hx
      clear hcu du hx1 hR hx
      go_wp2
      go_loopw [19] (fun i wr => ∃ (j : Nat) (D : DataW Value), j ≤ R.length ∧ i = .int .i64 j ∧ Hid (RowMap wr (w.heap.size + 1) (6 * k + j) D) ∧ Hid (MapOf D (tillT T k j) (rowF n T U)) ∧ Ext w wr) (fun i _ => R.length - (intOf i).toNat)
      case atStart => exact ⟨0, D, Nat.zero_le _, rfl, HM, HD, HX.out⟩
      case round =>
        clear HM HD HX
        obtain ⟨j, D, hj, rfl, HM, HD, hy⟩ := hrel
        by_cases hjt : j < R.length
        · obtain ⟨bx, ox, rfl, dx⟩ := hcx (by omega)
          obtain ⟨hy1, iy⟩ := dx j hjt
          obtain ⟨ay, cy, hU, _⟩ := iy
          have hval : rowF n T U k j = rowV R[j] (U k j) := by
            unfold rowF
            rw [rowOf_in hlt (by rw [← HR.out]; exact hjt)]
            simp only [HR.out]
          obtain ⟨d, hd⟩ : ∃ d, d = R[j] := ⟨_, rfl⟩
          rw [← hd] at hy1 hval hU
          rw [hU] at hy1 hval
          obtain ⟨g0, g1, g2, g3, g4, g5, g6, g7, g8, g9⟩ := hy1.ext hy
          have hput := HD.out.put (p := k) (q := j) (by omega) hval
          have HP := Lib.hid (hput.congr (S' := tillT T k (j + 1)) (f' := rowF n T U) (fun p q => tillT_step hlt (by rw [← HR.out]; exact hjt) p q) (fun _ _ _ => rfl))
          have HY := Lib.hid hy
          have HB : Hid (w.heap.size ≤ w.heap.size + 1) := Lib.hid (by omega)
          clear dx hy1 hd hcx hval hput HD hy hU
          go_wp2_with (at_mapUpdate; refine wpList_mapUpdate_own _ rfl _ _ _ 106 rfl 101 83 instKeyed Tryz.underlying106 asIs (w.heap.size + 1) (6 * k + j) D rfl (HM.out.alloc _) (by unfold maxLen; omega) _ _ (kl (k : Int) ((j : Int) + 1)) rfl rfl (keyOf_inst (wf_small (by omega) (by omega)) (wf_small (by omega) (by omega))) (.held (rowV d (.slice ay d.l.length cy))) [] rfl ?_)
          intro w1 hown1 hgrow1
          have hz : Ext w w1 := (HY.out.alloc _).turned hgrow1 HB.out
          have HO := Lib.hid hown1
          clear hown1 hgrow1 HM HY
          go_wp2
          go_roundw
          case rel => exact ⟨j + 1, _, by omega, by go_num, HO, HP, hz⟩
          case measure => simp [intOf]; omega
        · obtain rfl : j = R.length := by omega
          have HD' : Hid (MapOf D (tillT T (k + 1) 0) (rowF n T U)) := Lib.hid (HD.out.congr (fun p q => by rw [tillT_next hlt, ← HR.out]) (fun _ _ _ => rfl))
          have HM' : Hid (RowMap wr (w.heap.size + 1) (6 * (k + 1)) D) := Lib.hid (HM.out.mono (by omega))
          clear HD HM
          go_wp2
          go_roundw
          case rel => exact ⟨k + 1, D, by omega, by go_num, HM', HD', hy⟩
          case measure => simp [intOf]; omega
    · obtain rfl : k = T.length := by omega
      have HD' : Hid (MapOf D (inT T) (rowF n T U)) := Lib.hid (HD.out.congr (fun p q => (tillT_all p q).symm) (fun _ _ _ => rfl))
      have HM' : Hid (RowMap wr (w.heap.size + 1) 30 D) := Lib.hid (HM.out.mono (by omega))
      clear HD HM
      go_wp2
      go_ret
      exact ⟨_, D, rfl, HM'.out, HD'.out, by omega, hx⟩

end Go.Proofs.YtcpmfcigciknlaaGreat

namespace Go.Proofs.YtcpmfcigciknlaaGreat
open Go.RowKit
set_option linter.unusedVariables false

def bothTo (k f t k' f' t' : Int) (n : Nat) : Bool := (List.range n).any fun (j : Nat) => touchB k f t (j : Int) && touchB k' f' t' (j : Int)
theorem bothTo_succ (k f t k' f' t' : Int) (n : Nat) : bothTo k f t k' f' t' (n + 1) = (bothTo k f t k' f' t' n || (touchB k f t (n : Int) && touchB k' f' t' (n : Int))) := by
  simp [bothTo, List.range_succ]
theorem bothTo_all {k i f t a k' i' f' t' a' : Int} (hg : goodB k i f t a = true) (hg' : goodB k' i' f' t' a' = true) : interB k f t k' f' t' = bothTo k f t k' f' t' 4 := by
  unfold interB
  rw [← touchedTo_all hg, ← touchedTo_all hg']
  have r4 : List.range 4 = [0, 1, 2, 3] := rfl
  unfold touchedTo bothTo interL
  rw [r4]
  simp only [List.filter_cons, List.filter_nil, List.any_cons, List.any_nil]
  generalize touchB k f t ((0 : Nat) : Int) = a0
  generalize touchB k f t ((1 : Nat) : Int) = a1
  generalize touchB k f t ((2 : Nat) : Int) = a2
  generalize touchB k f t ((3 : Nat) : Int) = a3
  generalize touchB k' f' t' ((0 : Nat) : Int) = b0
  generalize touchB k' f' t' ((1 : Nat) : Int) = b1
  generalize touchB k' f' t' ((2 : Nat) : Int) = b2
  generalize touchB k' f' t' ((3 : Nat) : Int) = b3
  revert a0 a1 a2 a3 b0 b1 b2 b3
  decide

end Go.Proofs.YtcpmfcigciknlaaGreat

namespace Go.Proofs.YtcpmfcigciknlaaGreat
open Go.RowKit Go.Maps
set_option linter.unusedVariables false

/-- What is left of all instances while the map is swept: those that are settled, and those still to come. -/
def sweptT (T : List (List RowD)) (left : Lit → Bool) (p q : Nat) : Bool := inT T p q && (instCom T p q || left (kl (p : Int) ((q : Int) + 1)))
theorem inT_low {T : List (List RowD)} (hT : T.length ≤ 5) (hR6 : ∀ R ∈ T, R.length ≤ 6) {p q : Nat} (h : inT T p q = true) : p ≤ 4 ∧ q ≤ 5 := by
  obtain ⟨hp, hq⟩ := inT_of h
  have := hR6 _ (List.getElem_mem hp)
  omega
theorem instCom_inT {T : List (List RowD)} {p q : Nat} (h : instCom T p q = true) : inT T p q = true := by
  obtain ⟨hp, hq, _⟩ := instCom_lt h
  exact inT_mk hp hq
theorem instCom_row {n : Int} {T : List (List RowD)} {p q : Nat} (h : inT T p q = true) : instCom T p q = ((rowOf n T p q).st == 3) := by
  obtain ⟨hp, hq⟩ := inT_of h
  rw [instCom_in hp hq, rowOf_in hp hq]
theorem same_kl {p q p' q' : Nat} (h1 : p ≤ 1048576 ∧ q ≤ 1048576) (h2 : p' ≤ 1048576 ∧ q' ≤ 1048576) : (kl (p : Int) ((q : Int) + 1)).sameKey (kl (p' : Int) ((q' : Int) + 1)) = (decide (p = p') && decide (q = q')) := by
  by_cases e : p = p' ∧ q = q'
  · obtain ⟨rfl, rfl⟩ := e
    rw [WideAt.sameKey_self (instKeyed.key (keyOf_inst (wf_small (by omega) (by omega)) (wf_small (by omega) (by omega))))]
    simp
  · rw [Maps.sameKey_ne (kl_ne h1 h2 e)]
    symm
    simpa using e

/-- One instance has come: it is settled. -/
theorem swept_stays {T : List (List RowD)} (hT : T.length ≤ 5) (hR6 : ∀ R ∈ T, R.length ≤ 6) {left : Lit → Bool} {p q : Nat} (hi : inT T p q = true) (hc : instCom T p q = true) (p' q' : Nat) :
    sweptT T (fun z => left z && !z.sameKey (kl (p : Int) ((q : Int) + 1))) p' q' = sweptT T left p' q' := by
  unfold sweptT
  cases hi' : inT T p' q' with
  | false => rfl
  | true =>
    have h1 := inT_low hT hR6 hi
    have h2 := inT_low hT hR6 hi'
    simp only [Bool.true_and]
    rw [same_kl (by omega) (by omega)]
    by_cases e : p' = p ∧ q' = q
    · obtain ⟨rfl, rfl⟩ := e
      rw [hc]; rfl
    · have : (decide (p' = p) && decide (q' = q)) = false := by simpa using e
      rw [this]
      simp
/-- .. it is not. -/
theorem swept_goes {T : List (List RowD)} (hT : T.length ≤ 5) (hR6 : ∀ R ∈ T, R.length ≤ 6) {left : Lit → Bool} {p q : Nat} (hi : inT T p q = true) (hc : instCom T p q = false) (p' q' : Nat) :
    sweptT T (fun z => left z && !z.sameKey (kl (p : Int) ((q : Int) + 1))) p' q' = (sweptT T left p' q' && !(decide (p' = p) && decide (q' = q))) := by
  unfold sweptT
  cases hi' : inT T p' q' with
  | false => rfl
  | true =>
    have h1 := inT_low hT hR6 hi
    have h2 := inT_low hT hR6 hi'
    simp only [Bool.true_and]
    rw [same_kl (by omega) (by omega)]
    by_cases e : p' = p ∧ q' = q
    · obtain ⟨rfl, rfl⟩ := e
      rw [hc]; simp
    · have : (decide (p' = p) && decide (q' = q)) = false := by simpa using e
      rw [this]
      simp

theorem swept_start {T : List (List RowD)} {D : DataW Value} {f : Nat → Nat → Value} (h : MapOf D (inT T) f) (p q : Nat) : sweptT T (Maps.has D) p q = inT T p q := by
  unfold sweptT
  cases hi : inT T p q with
  | false => rfl
  | true => rw [h.has p q hi]; simp
theorem swept_end {T : List (List RowD)} {left : Lit → Bool} (h : ∀ l, left l = false) (p q : Nat) : instCom T p q = sweptT T left p q := by
  unfold sweptT
  rw [h]
  cases hi : instCom T p q with
  | false => simp
  | true => rw [instCom_inT hi]; rfl
theorem swept_in {T : List (List RowD)} {left : Lit → Bool} {p q : Nat} (h : sweptT T left p q = true) : inT T p q = true := by
  unfold sweptT at h
  rw [Bool.and_eq_true] at h
  exact h.1

set_option maxHeartbeats 4000000 in
set_option maxRecDepth 100000 in
theorem committedIn_any (n : Int) (u : Value) (T : List (List RowD)) (U : Nat → Nat → Value) (w : World) (hu : TabAt w u T U) (hT : T.length ≤ 5) (hR6 : ∀ R ∈ T, R.length ≤ 6) :
    Calls Tryz.prog 99 #[.agg #[.int .i64 n, u]] w (NewRowMap T (instCom T) (rowF n T U) w) := by
  have HL := Lib.hid (hu.lists n)
  have HU := Lib.hid (hu.ext (Ext.alloc1 w (.cells #[.int .i64 n, u] 32)))
  have H5 := Lib.hid hT
  have H6 := Lib.hid hR6
  obtain ⟨au, cu, rfl, hlu, _, _⟩ := hu
  unfold maxLen at hlu
  clear hR6
  go_enter Tryz.func99, Tryz.ntmps99
  go_wp2_with fail
  refine (rowsIn_any n _ T U _ HU.out hT H6.out).mono ?_
  rintro e w1 ⟨B, D0, rfl, m1, d1, hb1, x1⟩
  have hx1 : Ext w w1 := (Ext.alloc1 _ _).trans x1
  have hB : w.heap.size ≤ B := Nat.le_trans (Ext.alloc1 w (.cells #[.int .i64 n, .slice au T.length cu] 32)).size hb1
  have M1 := Lib.hid m1
  have D1 := Lib.hid d1
  have X1 := Lib.hid hx1
  clear m1 d1 hx1 x1 hb1
  go_wp2_with (first | (at_range; refine wpList_range_own _ rfl _ 106 rfl 101 83 instKeyed Tryz.underlying106 asIs B 30 D0 rfl M1.out ?_; intro w2 hrg2 hg2 hs2) | go_in)
  go_frame
  have X2 := Lib.hid (X1.out.trans (ext_of_grown hg2))
  have R2 := Lib.hid hrg2
  have X1' := X1.out
  clear hrg2 hg2 hs2 M1 X1
  obtain ⟨r, hr⟩ : ∃ r, r = w1.heap.size := ⟨_, rfl⟩
  rw [← hr] at R2 ⊢
  have hrb : w.heap.size ≤ r := by rw [hr]; exact X1'.size
  clear hr X1'
  go_loopw [4, 5] (fun _ _ wr => ∃ (D : DataW Value) (left : Lit → Bool) (cnt : Nat), Hid (RowRange wr B r 30 D left cnt) ∧ Hid (MapOf D (sweptT T left) (rowF n T U)) ∧ Hid (Ext w wr)) (fun _ _ wr => wr.rangeLeft B r)
  case atStart => exact ⟨D0, _, _, R2, Lib.hid (D1.out.congr (fun p q => swept_start D1.out p q) (fun _ _ _ => rfl)), X2⟩
  case round =>
    clear R2 D1 X2
    obtain ⟨D, left, cnt, R, M, X⟩ := hrel
    go_wp2_with (first | (at_next; refine wpList_next_inst _ rfl _ rfl B r 30 D left cnt _ _ rfl R.out M.out ?_ ?_) | go_in)
    · intro hl
      have M' := Lib.hid (M.out.congr (S' := instCom T) (f' := rowF n T U) (fun p q => swept_end hl p q) (fun _ _ _ => rfl))
      have R' := Lib.hid R.out.owns
      clear M R
      go_wp2
      go_ret
      exact ⟨_, D, rfl, R'.out, M'.out, hB, X.out⟩
    · intro p q w3 cnt3 hS hlk hrg3 hlt hg3 hs3 hen
      have hi := swept_in hS
      have hx3 : Ext w w3 := X.out.turned hg3 hrb
      obtain ⟨ay, cy, hU, _⟩ := HL.out p q hi
      unfold rowF rowV at hen ⊢
      rw [hU] at hen ⊢
      have R3 := Lib.hid hrg3
      have X3 := Lib.hid hx3
      have hcom : instCom T p q = ((rowOf n T p q).st == 3) := instCom_row hi
      obtain ⟨d, hd⟩ : ∃ d, d = rowOf n T p q := ⟨_, rfl⟩
      rw [← hd] at hen hcom ⊢
      have hlow := inT_low hT H6.out hi
      have HI := Lib.hid hi
      have HLT := Lib.hid hlt
      have HRO := Lib.hid R.out
      clear hrg3 hx3 hg3 hs3 hlk hd hU R X hS hi hlt
      cases hst : (d.st == 3) with
      | true =>
        rw [hst] at hcom
        have M3 := Lib.hid (M.out.congr (S' := sweptT T (fun z => left z && !z.sameKey (kl (p : Int) ((q : Int) + 1)))) (f' := rowF n T U) (fun p' q' => swept_stays hT H6.out HI.out hcom p' q') (fun _ _ _ => rfl))
        have h3 : d.st = 3 := by simpa using hst
        have ns : (d.st != 3) = false := by simp [h3]
        clear hcom M hst h3
        go_wp2
        go_roundw
        case rel => exact ⟨D, _, _, Lib.hid (((R3.out).alloc _).alloc _), M3, Lib.hid ((X3.out.alloc _).alloc _)⟩
        case measure => rw [((R3.out.alloc _).alloc _).left_eq, HRO.out.left_eq]; exact HLT.out
      | false =>
        rw [hst] at hcom
        have M3 := Lib.hid ((M.out.del (p := p) (q := q) (by omega)).congr (S' := sweptT T (fun z => left z && !z.sameKey (kl (p : Int) ((q : Int) + 1)))) (f' := rowF n T U) (fun p' q' => swept_goes hT H6.out HI.out hcom p' q') (fun _ _ _ => rfl))
        have h3 : ¬ d.st = 3 := by simpa using hst
        have ns : (d.st != 3) = true := by simp [h3]
        clear hcom M hst h3
        go_wp2_with (first | (at_delete; refine wpList_delete_ranges _ rfl _ _ 106 101 rfl 83 instKeyed Tryz.underlying106 asIs B r 30 D _ _ rfl ((R3.out.alloc _).alloc _) _ (kl (p : Int) ((q : Int) + 1)) rfl (keyOf_inst (wf_small (by omega) (by omega)) (wf_small (by omega) (by omega))) ?_; intro w4 cnt4 hrg4 hle ht4; go_frame) | go_in)
        rw [Maps.strike_twice] at hrg4
        have R4 := Lib.hid hrg4
        have X4 : Hid (Ext w w4) := Lib.hid (((X3.out.alloc _).alloc _).turned ht4.grown hB)
        have HLE := Lib.hid hle
        clear hrg4 ht4 hle R3 X3
        go_wp2
        go_roundw
        case rel => exact ⟨_, _, _, R4, M3, X4⟩
        case measure => rw [R4.out.left_eq, HRO.out.left_eq]; exact Nat.lt_of_le_of_lt HLE.out HLT.out

end Go.Proofs.YtcpmfcigciknlaaGreat

namespace Go.Proofs.YtcpmfcigciknlaaGreat
open Go.RowKit Go.Maps
set_option linter.unusedVariables false

set_option maxHeartbeats 1000000 in
theorem hangs_any (s : Int) (v : Value) (l : List Int) (p q : Nat) (w : World) (hv : Ints w v l) (hp : p < l.length) (hq : q ≤ 1048576) :
    Calls Tryz.prog 108 #[.agg #[.int .i64 s, v], .agg #[.int .i64 p, .int .i64 ((q : Int) + 1)]] w (BoolExt (decide ((q : Int) + 1 ≤ l[p]?.getD 0)) w) := by
  obtain ⟨av, cv, rfl, hlv, _, hcv⟩ := hv
  unfold maxLen at hlv
  obtain ⟨bv, ov, rfl, dv⟩ := hcv (by omega)
  have gv := ((Ext.alloc1 w (.cells #[.int .i64 s, .slice (some ⟨bv, ov, none⟩) l.length cv] 81)).alloc (.cells #[.int .i64 p, .int .i64 ((q : Int) + 1)] 101)).cell (dv p hp)
  obtain ⟨x, hx⟩ : ∃ x, x = l[p]?.getD 0 := ⟨_, rfl⟩
  rw [← hx] at gv ⊢
  have hx1 : Ext w ((w.alloc (.cells #[.int .i64 s, .slice (some ⟨bv, ov, none⟩) l.length cv] 81)).alloc (.cells #[.int .i64 p, .int .i64 ((q : Int) + 1)] 101)) := (Ext.alloc1 _ _).alloc _
  have HX := Lib.hid hx1
  clear dv hcv hx hx1
  go_enter Tryz.func108, Tryz.ntmps108
  go_wp2_with fail
  go_quiet (fail)
  go_wp2
  go_ret
  exact ⟨rfl, HX.out.drewN _⟩

end Go.Proofs.YtcpmfcigciknlaaGreat

namespace Go.Proofs.YtcpmfcigciknlaaGreat
open Go.RowKit
set_option linter.unusedVariables false

/-- A world that is W with new blocks. -/
def ExtOf (W : World) := {w' : World // Ext W w'}
instance (W : World) : Nonempty (ExtOf W) := ⟨⟨W, Ext.refl W⟩⟩
theorem ExtOf.cell {W : World} (e : ExtOf W) {a : Addr} {v : Value} (h : W.cell? a = some v) : e.1.cell? a = some v := Ext.cell e.2 h
theorem wp_region_ext_lit {P : Program} {id : Nat} {Q : Exit → Act → World → Prop} {a : Act} {w : World} {l : List Oper} (hm : P.follows .mixedOrders = true) (hB : Region.lexB .any l.toArray = true)
    (h : wpQuiet P l.toArray (fun w' => ∃ e : ExtOf w, w' = e.1) (fun a' => ∀ w', (∃ e : ExtOf w, w' = e.1) → Q .normal a' w') l a) : (Code.region id l.toArray true).wp P Q a w :=
  wp_region_quiet (C := fun w' => ∃ e : ExtOf w, w' = e.1) hm hB ⟨⟨w.drew, Ext.drew (Ext.refl w)⟩, rfl⟩ (by simpa using h)
/-- A callee's contract, met in such a world. -/
theorem Calls.ext_of {P : Program} {f : FuncId} {args : Array Value} {W : World} {v : Value} (e : ExtOf W)
    (h : Calls P f args e.1 fun x w' => x = .returned v ∧ Ext e.1 w') : Calls P f args e.1 fun x w'' => x = .returned v ∧ ∃ e' : ExtOf W, w'' = e'.1 :=
  h.mono fun _ w' ⟨he, hx⟩ => ⟨he, ⟨w', e.2.trans hx⟩, rfl⟩

end Go.Proofs.YtcpmfcigciknlaaGreat

namespace Go.Proofs.YtcpmfcigciknlaaGreat
open Go.RowKit Go.Maps
set_option linter.unusedVariables false

/-- All instances that have come conflict with none. -/
def DoneH (n : Int) (T : List (List RowD)) (left : Lit → Bool) : Prop := ∀ x ∈ insts T, left (kl (x.1 : Int) ((x.2 : Int) + 1)) = false → ∀ y ∈ insts T, x ≠ y → cfl n T x y = false
/-- .. those that have come do not conflict with this one. -/
def DoneI (n : Int) (T : List (List RowD)) (x : Nat × Nat) (left : Lit → Bool) : Prop := ∀ y ∈ insts T, left (kl (y.1 : Int) ((y.2 : Int) + 1)) = false → x ≠ y → cfl n T x y = false

theorem left_other {left : Lit → Bool} {x : Nat × Nat} {p q : Nat} (h1 : x.1 ≤ 1048576 ∧ x.2 ≤ 1048576) (h2 : p ≤ 1048576 ∧ q ≤ 1048576) (e : ¬ x = (p, q))
    (h : (fun z : Lit => left z && !z.sameKey (kl (p : Int) ((q : Int) + 1))) (kl (x.1 : Int) ((x.2 : Int) + 1)) = false) : left (kl (x.1 : Int) ((x.2 : Int) + 1)) = false := by
  have h' : (left (kl (x.1 : Int) ((x.2 : Int) + 1)) && !(kl (x.1 : Int) ((x.2 : Int) + 1)).sameKey (kl (p : Int) ((q : Int) + 1))) = false := h
  rw [same_kl h1 h2] at h'
  have : (decide (x.1 = p) && decide (x.2 = q)) = false := by
    simp only [Bool.and_eq_false_iff, decide_eq_false_iff_not]
    by_cases e1 : x.1 = p
    · exact .inr (fun e2 => e (Prod.ext e1 e2))
    · exact .inl e1
  rw [this] at h'
  simpa using h'
theorem goodTab_both {n : Int} {T : List (List RowD)} (h : goodTab n T = true) : T.length ≤ 5 ∧ ∀ R ∈ T, R.length ≤ 6 := by
  obtain ⟨h1, h2, h3⟩ := goodTab_of h
  refine ⟨?_, fun R hR => (h3 R hR).1⟩
  rcases isGrp_of h1 with e | e <;> omega
theorem goodRow_cmd' {n : Int} {r : RowD} (h : goodRow n r = true) : goodB r.k r.i r.f r.t r.a = true ∧ ((r.st == 0) = true → r.k = 0) := by
  unfold goodRow at h
  simp only [Bool.and_eq_true] at h
  have h2 := h.2
  split at h2
  · unfold emptyB zeroC at h2
    simp only [Bool.and_eq_true, beq_iff_eq] at h2
    obtain ⟨⟨_, e0, e1, e2, e3, e4⟩, _⟩ := h2
    rw [e0, e1, e2, e3, e4]
    exact ⟨rfl, fun _ => rfl⟩
  · rename_i hst
    unfold fullB at h2
    simp only [Bool.and_eq_true] at h2
    exact ⟨h2.1, fun h => absurd h (by simpa using hst)⟩
/-- A settled row of a good table: its command is good, its list has an entry for each replica. -/
theorem com_row {n : Int} {T : List (List RowD)} (h : goodTab n T = true) {p q : Nat} (hc : instCom T p q = true) :
    goodB (rowOf n T p q).k (rowOf n T p q).i (rowOf n T p q).f (rowOf n T p q).t (rowOf n T p q).a = true ∧ (rowOf n T p q).l.length = T.length ∧ p < T.length ∧ q ≤ 5 := by
  obtain ⟨hp, hq, hs⟩ := instCom_lt hc
  have h1 := goodTab_row h hp hq
  have h2 := goodTab_of h
  have h3 := (h2.2.2 _ (List.getElem_mem hp)).1
  rw [rowOf_in hp hq]
  refine ⟨?_, by omega, hp, by omega⟩
  exact (goodRow_cmd' h1.1).1
/-- Two integers in a block. -/
def PairAt (w : World) (b : Nat) (x y : Int) : Prop := w.cell? ⟨b, 0, none⟩ = some (.int .i64 x) ∧ w.cell? ⟨b, 1, none⟩ = some (.int .i64 y)
theorem PairAt.ext {w w' : World} {b : Nat} {x y : Int} (h : PairAt w b x y) (e : Ext w w') : PairAt w' b x y := ⟨e.cell h.1, e.cell h.2⟩
theorem two_new (w : World) (x y : Int) (T T' : TypeId) (C : Array Value) : PairAt ((w.alloc (.cells #[.int .i64 x, .int .i64 y] T)).alloc (.cells C T')) w.heap.size x y := by
  refine ⟨?_, ?_⟩ <;> go_simp
theorem row_new (w : World) (o : Obj) (T : TypeId) (r : RowD) (u : Value) : RowAt ((w.alloc o).alloc (.cells #[.int .i64 r.b, .int .i64 r.v, .int .i64 r.st, .int .i64 r.k, .int .i64 r.i, .int .i64 r.f, .int .i64 r.t, .int .i64 r.a, .int .i64 r.s, u] T)) (w.heap.size + 1) r u := by
  have h := rowAt_new (w.alloc o) T r u
  simpa using h

end Go.Proofs.YtcpmfcigciknlaaGreat

namespace Go.Proofs.YtcpmfcigciknlaaGreat
open Go.RowKit
set_option linter.unusedVariables false

/-- Lists in the same order with the same members are one. -/
theorem lex_unique {L M : List (Nat × Nat)} (hL : L.Pairwise lexL) (hM : M.Pairwise lexL) (h : ∀ x, x ∈ L ↔ x ∈ M) : L = M := by
  induction L generalizing M with
  | nil =>
    cases M with
    | nil => rfl
    | cons y t => exact absurd ((h y).2 (by simp)) (by simp)
  | cons x s ih =>
    cases M with
    | nil => exact absurd ((h x).1 (by simp)) (by simp)
    | cons y t =>
      rw [List.pairwise_cons] at hL hM
      have exy : x = y := by
        rcases List.mem_cons.1 ((h x).1 (by simp)) with e | e
        · exact e
        · rcases List.mem_cons.1 ((h y).2 (by simp)) with e' | e'
          · exact e'.symm
          · have h1 := hM.1 x e
            have h2 := hL.1 y e'
            unfold lexL at h1 h2
            omega
      subst exy
      congr 1
      refine ih hL.2 hM.2 fun z => ?_
      constructor
      · intro hz
        rcases List.mem_cons.1 ((h z).1 (by simp [hz])) with e | e
        · subst e
          have := hL.1 _ hz
          unfold lexL at this
          omega
        · exact e
      · intro hz
        rcases List.mem_cons.1 ((h z).2 (by simp [hz])) with e | e
        · subst e
          have := hM.1 _ hz
          unfold lexL at this
          omega
        · exact e
theorem insts_of {T : List (List RowD)} {L : List (Nat × Nat)} (hL : L.Pairwise lexL) (h : ∀ x : Nat × Nat, x ∈ L ↔ instCom T x.1 x.2 = true) : L = insts T :=
  lex_unique hL (insts_lex T) (fun x => by rw [h, mem_insts])
theorem insts_short {n : Int} {T : List (List RowD)} (hg : goodTab n T = true) : (insts T).length ≤ 30 := by
  have h := goodTab_both hg
  have h2 := allTo_len h.2 T.length (Nat.le_refl _)
  rw [allTo_insts, List.length_map] at h2
  have : (insts T).length ≤ 6 * T.length := h2
  omega
/-- What can be done, in order. -/
noncomputable def readyL (n : Int) (T : List (List RowD)) : List (Nat × Nat) := (insts T).filter fun x => readyB n T x.1 x.2
theorem readyB_com {n : Int} {T : List (List RowD)} {p q : Nat} (h : readyB n T p q = true) : instCom T p q = true := by
  obtain ⟨C, hC, hx⟩ := readyB_iff.1 h
  exact hC.1 _ hx
theorem readyL_of {n : Int} {T : List (List RowD)} {L : List (Nat × Nat)} (hL : L.Pairwise lexL) (h : ∀ x : Nat × Nat, x ∈ L ↔ readyB n T x.1 x.2 = true) : L = readyL n T :=
  lex_unique hL ((insts_lex T).filter _) (fun x => by
    unfold readyL
    rw [h, List.mem_filter, mem_insts]
    exact ⟨fun hr => ⟨readyB_com hr, hr⟩, fun hr => hr.2⟩)
theorem readyL_short {n : Int} {T : List (List RowD)} (hg : goodTab n T = true) : (readyL n T).length ≤ 30 :=
  Nat.le_trans (List.length_filter_le _ _) (insts_short hg)
noncomputable def readyR (n : Int) (T : List (List RowD)) : List (List Int) := if goodTab n T then (readyL n T).map pairOf else []
end Go.Proofs.YtcpmfcigciknlaaGreat

namespace Go.Proofs.YtcpmfcigciknlaaGreat
open Go.RowKit Go.Sort Go.Shelf
set_option linter.unusedVariables false

section
variable {α : Type} [Inhabited α] (enc : α → Value)

theorem holds_of_own {w : World} {B g n cap : Nat} {e : TypeId} {d : List α} (h : w.ownsRow B e 1 (.slice (some ⟨g, 0, none⟩) n cap) n (d.map enc)) (hn : d.length = n) : Holds enc w g 0 d.toArray := by
  subst hn
  intro j hj
  have hj' : j < d.length := by simpa using hj
  have hc := World.ownsRow.cellAt h j (by omega)
  rcases h.2 with ⟨hv, _⟩ | ⟨g', cap', cur, hv, _, hb, _⟩
  · cases hv
  · cases hv
    refine ⟨?_, by simp [World.frozen?, hb]⟩
    rw [Nat.zero_add, hc, List.getElem?_map, List.getElem?_eq_getElem hj']
    simp [hj']

theorem heap_put {w : World} {g n : Nat} {os : Array Obj} {cur : Array Value} {e : TypeId} {fr : Nat × Nat} (d : Array α) (hb : w.heap[g]? = some (.cells cur e fr)) :
    (grow (putRow enc (Sort.ahead w n) g 0 d) os).heap[g]? = some (.cells (putCells enc 0 d cur) e fr) := by
  have hg : g < w.heap.size := (Array.getElem?_eq_some_iff.1 hb).1
  rw [heap_grow_old _ _ (by simpa using hg)]
  simp [putRow, mapBlock, Sort.ahead, Array.getElem?_modify, hb, onCells]

theorem grown_put {w : World} {g n : Nat} {os : Array Obj} (d : Array α) : w.grownBy (grow (putRow enc (Sort.ahead w n) g 0 d) os) (some g) := by
  refine ⟨rfl, rfl, rfl, by simp, fun k hk hne => ?_⟩
  rw [heap_grow_old _ _ (by simpa using hk)]
  have : g ≠ k := fun e => hne (by rw [e])
  simp [putRow, mapBlock, Sort.ahead, Array.getElem?_modify, this]

theorem take_put (cur : Array Value) (ts : List α) (h : ts.length ≤ cur.size) : (putCells enc 0 ts.toArray cur).toList.take ts.length = ts.map enc := by
  apply List.ext_getElem?
  intro j
  by_cases hj : j < ts.length
  · rw [List.getElem?_take_of_lt hj, Array.getElem?_toList]
    simp [putCells, hj, show j < cur.size by omega]
  · rw [List.getElem?_take_eq_none (by omega), List.getElem?_eq_none (by simp; omega)]

/-- Behind the sort the same slice owns what was put. -/
theorem own_put {w : World} {B g cap n m : Nat} {e : TypeId} {os : Array Obj} {xs : List Value} {ts : List α} (h : w.ownsRow B e 1 (.slice (some ⟨g, 0, none⟩) n cap) n xs) (hl : ts.length = n) :
    (grow (putRow enc (Sort.ahead w m) g 0 ts.toArray) os).ownsRow B e 1 (.slice (some ⟨g, 0, none⟩) n cap) n (ts.map enc) := by
  rcases h.2 with ⟨hv, _⟩ | ⟨g', cap', cur, hv, hbase, hb, h1, h2, h3, _⟩
  · cases hv
  · cases hv
    refine ⟨by simp [hl], .inr ⟨g, cap, _, rfl, hbase, heap_put enc ts.toArray hb, h1, h2, by simp [putCells, h3], ?_⟩⟩
    rw [Nat.mul_one, ← hl]
    exact take_put enc cur ts (by omega)
end

/-- What a sort of integers leaves. -/
def sortI (l : List Int) : List Int := l.mergeSort fun x y => decide (x ≤ y)
def SortOk : Prop := ∀ (B : Nat) (v : Value) (l : List Int) (w : World), Fresh B w v l → 0 < l.length → l.length ≤ 1048576 →
  Calls Tryz.prog 243 #[v] w (fun e w' => (∃ r, e = .returned r) ∧ Fresh B w' v (sortI l) ∧ w.grownBy w' v.ownBlock)
theorem sortOk : SortOk := by
  intro B v l w hf h0 hl
  have hf' : w.ownsRow B 3 1 v l.length (l.map (Value.int .i64)) := hf
  rcases hf.2 with ⟨_, h1⟩ | ⟨g, cap, cur, rfl, hb, hg, _⟩
  · omega
  · have hH := holds_of_own (Value.int .i64) hf' rfl
    have hgw : g < w.heap.size := (Array.getElem?_eq_some_iff.1 hg).1
    have hc := Tryz.slices_Sort_int g 0 cap l w hH hgw (by omega)
    refine hc.mono ?_
    rintro e w' ⟨rfl, n, os, rfl⟩
    have hlen : (sortI l).length = l.length := by simp [sortI]
    refine ⟨⟨_, rfl⟩, ?_, grown_put _ _⟩
    have := own_put (Value.int .i64) (m := n) (os := os) hf' hlen
    unfold Fresh
    rw [hlen]
    exact this

end Go.Proofs.YtcpmfcigciknlaaGreat

namespace Go.Proofs.YtcpmfcigciknlaaGreat
open Go.RowKit
set_option linter.unusedVariables false

def cmpI (a b : Int) : Int := if a < b then -1 else if b < a then 1 else 0
def cmpL : List Int → List Int → Int
  | [], [] => 0
  | [], _ :: _ => -1
  | _ :: _, [] => 1
  | a :: s, b :: t => if cmpI a b = 0 then cmpL s t else cmpI a b

/-- A number comes back, and the world is as it was. -/
def IntSame (n : Int) (w : World) (e : Ending) (w' : World) : Prop := e = .returned (.int .i64 n) ∧ w' = w

set_option maxHeartbeats 1000000 in
theorem compareInt_any (a b : Int) (w : World) : Calls Tryz.prog 146 #[.int .i64 a, .int .i64 b] w (IntSame (cmpI a b) w) := by
  have hnan : ∀ (n : Int) (W : World), Calls Tryz.prog 190 #[.int .i64 n] W (fun e W' => e = .returned (.bool false) ∧ W' = W) := fun n W => by
    go_enter Tryz.func190, Tryz.ntmps190
    go_wp2
    go_ret
    exact ⟨rfl, rfl⟩
  go_enter Tryz.func146, Tryz.ntmps146
  by_cases h1 : a < b
  · have e : cmpI a b = -1 := by unfold cmpI; rw [if_pos h1]
    rw [e]
    clear e
    go_wp2_with fail
    refine (hnan a _).mono ?_
    rintro e w1 ⟨rfl, rfl⟩
    go_wp2_with fail
    refine (hnan b _).mono ?_
    rintro e w1 ⟨rfl, rfl⟩
    go_wp2
    go_ret
    exact ⟨rfl, rfl⟩
  · by_cases h2 : b < a
    · have e : cmpI a b = 1 := by unfold cmpI; rw [if_neg h1, if_pos h2]
      rw [e]
      clear e
      go_wp2_with fail
      refine (hnan a _).mono ?_
      rintro e w1 ⟨rfl, rfl⟩
      go_wp2_with fail
      refine (hnan b _).mono ?_
      rintro e w1 ⟨rfl, rfl⟩
      go_wp2
      go_ret
      exact ⟨rfl, rfl⟩
    · have e : cmpI a b = 0 := by unfold cmpI; rw [if_neg h1, if_neg h2]
      rw [e]
      clear e
      go_wp2_with fail
      refine (hnan a _).mono ?_
      rintro e w1 ⟨rfl, rfl⟩
      go_wp2_with fail
      refine (hnan b _).mono ?_
      rintro e w1 ⟨rfl, rfl⟩
      go_wp2
      go_ret
      exact ⟨rfl, rfl⟩

theorem cmpL_step : ∀ (l r : List Int) (k : Nat) (hk : k < l.length) (hr : k < r.length) (h : cmpL l r = cmpL (l.drop k) (r.drop k)), (cmpI l[k] r[k] = 0 → cmpL l r = cmpL (l.drop (k + 1)) (r.drop (k + 1))) ∧ (cmpI l[k] r[k] ≠ 0 → cmpL l r = cmpI l[k] r[k]) := by
  intro l r k hk hr h
  rw [List.drop_eq_getElem_cons hk, List.drop_eq_getElem_cons hr] at h
  have e4 : cmpL (l[k] :: l.drop (k + 1)) (r[k] :: r.drop (k + 1)) = if cmpI l[k] r[k] = 0 then cmpL (l.drop (k + 1)) (r.drop (k + 1)) else cmpI l[k] r[k] := by simp only [cmpL]
  rw [e4] at h
  constructor
  · intro e; rw [h, if_pos e]
  · intro e; rw [h, if_neg e]

set_option maxHeartbeats 2000000 in
theorem compare_any (u v : Value) (l r : List Int) (w : World) (hu : Ints w u l) (hv : Ints w v r) : Calls Tryz.prog 194 #[u, v] w (IntSame (cmpL l r) w) := by
  obtain ⟨au, cu, rfl, hlu, _, du⟩ := hu
  obtain ⟨av, cv, rfl, hlv, _, dv⟩ := hv
  unfold maxLen at hlu hlv
  have DU := Lib.hid du
  have DV := Lib.hid dv
  clear du dv
  go_enter Tryz.func194, Tryz.ntmps194
  go_wp2
  go_loopw [5, 6, 7, 8, 11] (fun _ _ _ _ i wr => ∃ k : Nat, k ≤ l.length ∧ k ≤ r.length ∧ i = .int .i64 k ∧ Hid (cmpL l r = cmpL (l.drop k) (r.drop k)) ∧ wr = w) (fun _ _ _ _ i _ => l.length - (intOf i).toNat)
  case atStart => exact ⟨0, Nat.zero_le _, Nat.zero_le _, rfl, Lib.hid rfl, rfl⟩
  case round =>
    obtain ⟨k, hk, hk2, rfl, hC, rfl⟩ := hrel
    by_cases hlt : k < l.length
    · obtain ⟨bu, ou, rfl, eu⟩ := DU.out (by omega)
      have z1 := eu k hlt
      rw [List.getElem?_eq_getElem hlt, Option.getD_some] at z1
      by_cases hlr : k < r.length
      · obtain ⟨bv, ov, rfl, ev⟩ := DV.out (by omega)
        have z2 := ev k hlr
        rw [List.getElem?_eq_getElem hlr, Option.getD_some] at z2
        obtain ⟨h1, h2⟩ := cmpL_step l r k hlt hlr hC.out
        obtain ⟨x, hx⟩ : ∃ x, x = l[k] := ⟨_, rfl⟩
        obtain ⟨y, hy⟩ : ∃ y, y = r[k] := ⟨_, rfl⟩
        rw [← hx] at z1 h1 h2
        rw [← hy] at z2 h1 h2
        have H1 := Lib.hid h1
        have H2 := Lib.hid h2
        clear hx hy h1 h2 eu ev
        go_wp2_with fail
        refine (compareInt_any x y _).mono ?_
        rintro e w1 ⟨rfl, rfl⟩
        by_cases hc : cmpI x y = 0
        · have HC := Lib.hid (H1.out hc)
          rw [hc]
          clear hc
          go_wp2
          go_roundw
          case rel => exact ⟨k + 1, by omega, by omega, by go_num, HC, by first | exact rfl | trivial⟩
          case measure => simp [intOf]; omega
        · have HC := Lib.hid (H2.out hc)
          obtain ⟨n, hn⟩ : ∃ n, n = cmpI x y := ⟨_, rfl⟩
          rw [← hn] at hc HC ⊢
          have hb : (n != 0) = true := by simp [hc]
          clear hn
          go_wp2
          go_ret
          exact ⟨by rw [HC.out]; rfl, rfl⟩
      · obtain rfl : k = r.length := by omega
        have HC : Hid (cmpL l r = 1) := Lib.hid (by
          have := hC.out
          rw [List.drop_length, List.drop_eq_getElem_cons hlt] at this
          exact this)
        go_wp2
        go_ret
        exact ⟨by rw [HC.out]; rfl, rfl⟩
    · obtain rfl : k = l.length := by omega
      by_cases hlr : l.length < r.length
      · have HC : Hid (cmpL l r = -1) := Lib.hid (by
          have := hC.out
          rw [List.drop_length, List.drop_eq_getElem_cons hlr] at this
          exact this)
        go_wp2
        go_ret
        exact ⟨by rw [HC.out]; rfl, rfl⟩
      · have HC : Hid (cmpL l r = 0) := Lib.hid (by
          have := hC.out
          have e : l.length = r.length := by omega
          rw [List.drop_length, e, List.drop_length] at this
          exact this)
        go_wp2
        go_ret
        exact ⟨by rw [HC.out]; rfl, rfl⟩

end Go.Proofs.YtcpmfcigciknlaaGreat
