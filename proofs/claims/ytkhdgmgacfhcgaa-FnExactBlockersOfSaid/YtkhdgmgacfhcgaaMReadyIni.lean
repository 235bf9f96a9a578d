/- Texts of this proof, part i: words, plain facts, contracts. -/
import Derived.Test.YtkhdgmgacfhcgaaMReadyInh
import Derived.Test.YtkhdgmgacfhcgaaMReadyInf
import Derived.Maps.AppendAt
import Derived.Test.YtkhdgmgacfhcgaaMReadyIng
import Derived.Deep.Cut
import Derived.Test.YtkhdgmgacfhcgaaMReadyInb
import Derived.Deep.RegionHeld3

namespace Go.Proofs.Ytkhdgmgacfhcgaa
open Go.RowKit
set_option linter.unusedVariables false

/-- x hangs on y, another one. -/
def edgeB (n : Int) (T : List (List RowD)) (x y : Nat × Nat) : Bool := !(decide (x = y)) && decide ((y.2 : Int) + 1 ≤ depI (rowOf n T x.1 x.2) y.1)
/-- Those of the first k on which x hangs. -/
def rowE (n : Int) (T : List (List RowD)) (L : List (Nat × Nat)) (x : Nat × Nat) (k : Nat) : List Int := ((List.range k).filter fun j => edgeB n T x (L[j]?.getD (0, 0))).map fun (j : Nat) => (j : Int)
def graphP (n : Int) (T : List (List RowD)) (L : List (Nat × Nat)) : List (List Int) := L.map fun x => rowE n T L x L.length
theorem rowE_zero (n : Int) (T : List (List RowD)) (L : List (Nat × Nat)) (x : Nat × Nat) : rowE n T L x 0 = [] := rfl
theorem rowE_succ {n : Int} {T : List (List RowD)} {L : List (Nat × Nat)} {x : Nat × Nat} {k : Nat} (h : k < L.length) : rowE n T L x (k + 1) = rowE n T L x k ++ if edgeB n T x L[k] then [(k : Int)] else [] := by
  unfold rowE
  rw [List.range_succ, List.filter_append, List.map_append]
  congr 1
  have e : L[k]?.getD (0, 0) = L[k] := by simp [h]
  cases hb : edgeB n T x L[k] <;> simp [hb, h]
theorem rowE_len (n : Int) (T : List (List RowD)) (L : List (Nat × Nat)) (x : Nat × Nat) (k : Nat) : (rowE n T L x k).length ≤ k := by
  unfold rowE
  rw [List.length_map]
  have := List.length_filter_le (fun j => edgeB n T x (L[j]?.getD (0, 0))) (List.range k)
  simpa using this
/-- While the graph is made: k rows are whole, of the next one the first j are looked at. -/
def halfG (n : Int) (T : List (List RowD)) (L : List (Nat × Nat)) (k j : Nat) : List (List Int) := (List.range L.length).map fun i => if i < k then rowE n T L (L[i]?.getD (0, 0)) L.length else if i = k then rowE n T L (L[i]?.getD (0, 0)) j else []
theorem halfG_len (n : Int) (T : List (List RowD)) (L : List (Nat × Nat)) (k j : Nat) : (halfG n T L k j).length = L.length := by simp [halfG]
theorem halfG_at {n : Int} {T : List (List RowD)} {L : List (Nat × Nat)} {k : Nat} (j : Nat) (h : k < L.length) : (halfG n T L k j)[k]? = some (rowE n T L L[k] j) := by simp [halfG, h]
theorem halfG_set {n : Int} {T : List (List RowD)} {L : List (Nat × Nat)} {k : Nat} (j : Nat) (h : k < L.length) : halfG n T L k (j + 1) = (halfG n T L k j).set k (rowE n T L L[k] (j + 1)) := by
  apply List.ext_getElem?
  intro i
  rw [List.getElem?_set]
  unfold halfG
  by_cases e : k = i
  · subst e
    simp [h]
  · by_cases hi : i < L.length
    · simp [hi, e, Ne.symm e]
    · simp [hi, e]
theorem halfG_stay {n : Int} {T : List (List RowD)} {L : List (Nat × Nat)} {k : Nat} (j : Nat) (h : k < L.length) (he : rowE n T L L[k] (j + 1) = rowE n T L L[k] j) : halfG n T L k (j + 1) = halfG n T L k j := by
  rw [halfG_set j h, he]
  apply List.ext_getElem?
  intro i
  rw [List.getElem?_set]
  by_cases e : k = i
  · subst e
    rw [if_pos rfl, if_pos (by rw [halfG_len]; exact h), halfG_at j h]
  · rw [if_neg e]
theorem halfG_next {n : Int} {T : List (List RowD)} {L : List (Nat × Nat)} {k : Nat} : halfG n T L k L.length = halfG n T L (k + 1) 0 := by
  apply List.ext_getElem?
  intro i
  unfold halfG
  by_cases hi : i < L.length
  · simp only [List.getElem?_map, List.getElem?_range hi, Option.map_some, Option.some.injEq]
    by_cases h1 : i < k
    · rw [if_pos h1, if_pos (by omega)]
    · rw [if_neg h1]
      by_cases h2 : i = k
      · rw [if_pos h2, if_pos (by omega)]
      · rw [if_neg h2, if_neg (by omega)]
        by_cases h3 : i = k + 1
        · rw [if_pos h3, rowE_zero]
        · rw [if_neg h3]
  · simp [hi]
theorem halfG_zero (n : Int) (T : List (List RowD)) (L : List (Nat × Nat)) : halfG n T L 0 0 = List.replicate L.length [] := by
  apply List.ext_getElem?
  intro i
  unfold halfG
  by_cases hi : i < L.length
  · simp only [List.getElem?_map, List.getElem?_range hi, Option.map_some, List.getElem?_replicate, if_pos hi, Option.some.injEq]
    rw [if_neg (by omega)]
    by_cases h2 : i = 0
    · rw [if_pos h2, rowE_zero]
    · rw [if_neg h2]
  · simp [hi]
theorem halfG_all (n : Int) (T : List (List RowD)) (L : List (Nat × Nat)) : halfG n T L L.length 0 = graphP n T L := by
  apply List.ext_getElem?
  intro i
  unfold halfG graphP
  by_cases hi : i < L.length
  · simp [hi]
  · simp [hi]

/-! ### In place -/
theorem Rows_.push {B k : Nat} {w w' : World} {vs : List Value} {L : List (List Int)} {z v' : Value} {l : List Int} (h : Rows_ B w vs L) (hz : vs[k]? = some z) (t : w.grownBy w' z.ownBlock) (hv : Fresh B w' v' l)
    (hloc : v'.ownBlock = z.ownBlock ∨ v'.ownBlock = some w.heap.size) : Rows_ B w' (vs.set k v') (L.set k l) := by
  have hk : k < vs.length := (List.getElem?_eq_some_iff.1 hz).1
  have hkL : k < L.length := by rw [← h.len]; exact hk
  have low : ∀ (j : Nat) (u : Value), vs[j]? = some u → ∀ g, u.ownBlock = some g → g < w.heap.size := fun j u hu g hg => by
    have hj := (List.getElem?_eq_some_iff.1 hu).1
    exact (World.ownsRow.lt (h.row j u _ hu (List.getElem?_eq_getElem (by rw [← h.len]; exact hj))) g hg).2
  refine ⟨by rw [List.length_set, List.length_set]; exact h.len, fun j u r hu hr => ?_, fun i j u y hij hu hy => ?_⟩
  · rw [List.getElem?_set] at hu hr
    by_cases e1 : k = j
    · rw [if_pos e1, if_pos hk] at hu
      rw [if_pos e1, if_pos hkL] at hr
      rw [← Option.some.inj hu, ← Option.some.inj hr]
      exact hv
    · rw [if_neg e1] at hu hr
      exact World.ownsRow.kept (h.row j u r hu hr) t (h.apart j k u z (fun e => e1 e.symm) hu hz)
  · rw [List.getElem?_set] at hu hy
    by_cases e1 : k = i
    · by_cases e2 : k = j
      · omega
      · rw [if_pos e1, if_pos hk] at hu
        rw [if_neg e2] at hy
        cases hu
        rcases hloc with e | e
        · rw [e]; exact h.apart k j z y (fun e' => e2 e') hz hy
        · rw [e]
          exact .inr (fun e' => by have := low j y hy _ e'.symm; omega)
    · rw [if_neg e1] at hu
      by_cases e2 : k = j
      · rw [if_pos e2, if_pos hk] at hy
        cases hy
        cases hb : u.ownBlock with
        | none => exact .inl rfl
        | some g =>
          refine .inr (fun e' => ?_)
          rcases hloc with e | e
          · rcases h.apart i k u z (fun e' => e1 e'.symm) hu hz with h0 | h0
            · rw [hb] at h0; cases h0
            · exact h0 (by rw [hb, e', e])
          · rw [e] at e'
            cases e'
            have := low i u hu _ hb
            omega
      · rw [if_neg e2] at hy
        exact h.apart i j u y hij hu hy

/-- append(s, x), s of the call's own: and where the new slice lies. -/
theorem wpList_pushAt {ops : Array Oper} {rest : List Oper} {o : Oper} {a : Act} {Q : Exit → Act → World → Prop} {w : World} (hgd : o.guard = none) (s x : Operand)
    (ho : o.op = .call { callee := .builtin .append, args := #[s, x], argTypes := #[49, 49] })
    (B : Nat) (v : Value) (l : List Int) (n : Int) (hs : a.eval s = v) (hf : Fresh B w v l) (ad : Addr) (c : Nat) (hx : a.eval x = .slice (some ad) 1 c)
    (hc : w.cell? ad = some (.int .i64 n)) (hl : l.length ≤ 1099511627776) (hB : B ≤ w.heap.size)
    (h : ∀ v' w', Fresh B w' v' (l ++ [n]) → w.grownBy w' v.ownBlock → Kept B w w' → (v'.ownBlock = v.ownBlock ∨ v'.ownBlock = some w.heap.size) → wpList Try.prog ops Q rest (a.put o.dst v') w') : wpList Try.prog ops Q (o :: rest) a w := by
  obtain ⟨i0, hi, hz0, hz1, hz2⟩ := info_parts Try.infoInt
  refine wpList_append_own_at _ hgd s x 49 ho B 3 i0 (.int .i64 0) 1 8 Try.underlying49 hi hz0 hz1 hz2 rfl (by decide) v l.length _ hs hf ad 1 c [.int .i64 n] hx rfl ?_ ?_ ?_ ?_ hB ?_
  · intro j u hj
    match j, hj with
    | 0, hj => simp at hj; subst hj; simpa [Addr.add] using hc
  · intro u hu; simp at hu; subst hu; rfl
  · unfold maxLen; omega
  · omega
  · intro v' w' ho' hg _ hloc
    refine h v' w' ?_ hg (fun w0 hx0 hB0 => Below.grown hx0 hg hx0.size (fun q hq => Nat.le_trans hB0 (World.ownsRow.lt hf q hq).1)) hloc
    unfold Fresh
    rw [List.map_append, List.length_append]; exact ho'

end Go.Proofs.Ytkhdgmgacfhcgaa

namespace Go.Proofs.Ytkhdgmgacfhcgaa
open Go.RowKit Go.Maps
set_option linter.unusedVariables false

theorem field_rowA (b v st k i f t a s : Int) (u : Value) (W : World) : (Instr.field 53 (.agg #[.int .i64 b, .int .i64 v, .int .i64 st, .int .i64 k, .int .i64 i, .int .i64 f, .int .i64 t, .int .i64 a, .int .i64 s, u]) 4).run Try.prog W = .ok (.agg #[.int .i64 s, u]) W := by kernel_rfl
theorem zeroRow (W : World) : (zeroValue 53).run Try.prog W = .ok (.agg #[.int .i64 0, .int .i64 0, .int .i64 0, .int .i64 0, .int .i64 0, .int .i64 0, .int .i64 0, .int .i64 0, .int .i64 0, .slice none 0 0]) W := by kernel_rfl

theorem cell_offG {W : World} {g o : Nat} {a : Addr} {z u : Value} (hne : a.block ≠ g) (h : W.cell? a = some u) : (W.setCell ⟨g, o, none⟩ z).cell? a = some u := by
  have hh := Below.heap_setCell W ⟨g, o, none⟩ z a.block hne
  have e : (W.setCell ⟨g, o, none⟩ z).cell? a = W.cell? a := by unfold World.cell?; rw [hh]
  rw [e]; exact h
/-- From place k on the lists are nil. -/
def NilFrom (vs : List Value) (k : Nat) : Prop := ∀ (i : Nat) (z : Value), k ≤ i → vs[i]? = some z → z = .slice none 0 0
/-- The list at place k lies behind block b. -/
def Behind (vs : List Value) (k b : Nat) : Prop := ∀ z : Value, vs[k]? = some z → ∀ g, z.ownBlock = some g → b < g

/-- What a map has at an instance that is there. -/
theorem look_inst {W : World} {B n0 : Nat} {D : DataW Value} {S : Nat → Nat → Bool} {f : Nat → Nat → Value} (hm : RowMap W B n0 D) (hd : MapOf D S f) {p q : Nat} (hs : S p q = true) :
    (Instr.lookup 54 (.map (some B)) (.agg #[.int .i64 p, .int .i64 ((q : Int) + 1)]) false).run Try.prog W = .ok (f p q) W := by
  have hl := hd.low p q hs
  obtain ⟨v, ps, hrun, hv⟩ := hm.lookup instKeyed Try.underlying54 (zeroRow W) (zd := .held _) (zp := []) rfl (keyOf_inst (a := p) (b := (q : Int) + 1) (wf_small (by omega) (by omega)) (wf_small (by omega) (by omega)))
  rw [hd.val p q hs] at hv
  simp only [asIs, Option.some.injEq, Prod.mk.injEq, DataW.held.injEq] at hv
  rw [hv.1] at hrun
  exact hrun

end Go.Proofs.Ytkhdgmgacfhcgaa

namespace Go.Proofs.Ytkhdgmgacfhcgaa
open Go.RowKit Go.Maps
set_option linter.unusedVariables false

/-- Of a replica's first m instances those that are not x. -/
def depsAt (x : Nat × Nat) (k m : Nat) : List (Nat × Nat) := ((List.range m).filter fun i => !(decide ((k, i) = x))).map fun i => (k, i)
def depN (r : RowD) (k : Nat) : Nat := (depI r k).toNat
/-- .. of the first k replicas. -/
def depsTo (r : RowD) (x : Nat × Nat) (k : Nat) : List (Nat × Nat) := (List.range k).flatMap fun p => depsAt x p (depN r p)
def depsL (n : Int) (T : List (List RowD)) (x : Nat × Nat) : List (Nat × Nat) := depsTo (rowOf n T x.1 x.2) x (rowOf n T x.1 x.2).l.length
theorem depsAt_succ (x : Nat × Nat) (k m : Nat) : depsAt x k (m + 1) = depsAt x k m ++ if (k, m) = x then [] else [(k, m)] := by
  unfold depsAt
  rw [List.range_succ, List.filter_append, List.map_append]
  congr 1
  by_cases e : (k, m) = x <;> simp [e]
theorem depsTo_succ (r : RowD) (x : Nat × Nat) (k : Nat) : depsTo r x (k + 1) = depsTo r x k ++ depsAt x k (depN r k) := by simp [depsTo, List.range_succ]
theorem depsAt_len (x : Nat × Nat) (k m : Nat) : (depsAt x k m).length ≤ m := by
  unfold depsAt
  rw [List.length_map]
  have := List.length_filter_le (fun i => !(decide ((k, i) = x))) (List.range m)
  simpa using this
theorem depsTo_len {r : RowD} {x : Nat × Nat} (h : ∀ k, depN r k ≤ 6) (k : Nat) : (depsTo r x k).length ≤ 6 * k := by
  induction k with
  | zero => simp [depsTo]
  | succ k ih =>
    rw [depsTo_succ, List.length_append]
    have h1 := depsAt_len x k (depN r k)
    have h2 := h k
    omega
theorem mem_depsAt {x y : Nat × Nat} {k m : Nat} : y ∈ depsAt x k m ↔ y.1 = k ∧ y.2 < m ∧ y ≠ x := by
  unfold depsAt
  rw [List.mem_map]
  constructor
  · rintro ⟨i, hi, rfl⟩
    rw [List.mem_filter, List.mem_range] at hi
    exact ⟨rfl, hi.1, by simpa using hi.2⟩
  · rintro ⟨h1, h2, h3⟩
    refine ⟨y.2, ?_, ?_⟩
    · rw [List.mem_filter, List.mem_range]
      refine ⟨h2, ?_⟩
      have e : (k, y.2) = y := by rw [← h1]
      rw [e]
      simpa using h3
    · rw [← h1]
theorem mem_depsTo {r : RowD} {x y : Nat × Nat} {k : Nat} : y ∈ depsTo r x k ↔ y.1 < k ∧ y.2 < depN r y.1 ∧ y ≠ x := by
  unfold depsTo
  rw [List.mem_flatMap]
  constructor
  · rintro ⟨p, hp, hy⟩
    obtain ⟨h1, h2, h3⟩ := mem_depsAt.1 hy
    subst h1
    exact ⟨List.mem_range.1 hp, h2, h3⟩
  · rintro ⟨h1, h2, h3⟩
    exact ⟨y.1, List.mem_range.2 h1, mem_depsAt.2 ⟨rfl, h2, h3⟩⟩
/-- The numbers of a good row's list. -/
theorem dep_in {n : Int} {T : List (List RowD)} (hg : goodTab n T = true) {p : Nat} (hp : p < T.length) (q k : Nat) : 0 ≤ depI (rowOf n T p q) k ∧ depI (rowOf n T p q) k ≤ 6 := by
  have hz : ∀ j : Nat, (noneL n)[j]?.getD 0 = 0 := fun j => by
    unfold noneL
    split
    · rw [List.getElem?_replicate]
      split <;> rfl
    · rfl
  by_cases hq : q < T[p].length
  · rw [rowOf_in hp hq]
    have h := (goodTab_row hg hp hq).1
    unfold goodRow at h
    simp only [Bool.and_eq_true] at h
    have h2 := h.2
    unfold depI
    split at h2
    · unfold emptyB sameA at h2
      simp only [Bool.and_eq_true, decide_eq_true_eq] at h2
      rw [h2.2.2, hz]
      omega
    · unfold fullB at h2
      simp only [Bool.and_eq_true] at h2
      have h3 := (goodD_of h2.2).2.2
      by_cases hk : k < T[p][q].l.length
      · rw [List.getElem?_eq_getElem hk, Option.getD_some]
        have := List.all_eq_true.1 h3 _ (List.getElem_mem hk)
        unfold inB at this
        simp at this
        omega
      · rw [List.getElem?_eq_none (by omega)]
        simp
  · rw [rowOf_out hp (by omega)]
    unfold depI emptyR
    rw [hz]
    omega
theorem rowOf_list {n : Int} {T : List (List RowD)} (hg : goodTab n T = true) {p : Nat} (hp : p < T.length) (q : Nat) : (rowOf n T p q).l.length ≤ 5 := by
  by_cases hq : q < T[p].length
  · rw [rowOf_in hp hq]
    exact (goodTab_row hg hp hq).2.2
  · rw [rowOf_out hp (by omega)]
    unfold emptyR noneL
    split
    · rename_i h
      rcases isGrp_of h with e | e <;> subst e <;> decide
    · simp

set_option maxHeartbeats 4000000 in
set_option maxRecDepth 100000 in
theorem l6Deps_any (n : Int) (u : Value) (T : List (List RowD)) (p q : Nat) (w : World) (hu : Rowzz w u T) (hg : goodTab n T = true) (hp : p < T.length) (hq : q ≤ 5) :
    Calls Try.prog 51 #[.agg #[.int .i64 n, u], .int .i64 p, .int .i64 ((q : Int) + 1)] w (NewIntss ((depsL n T (p, q)).map pairOf) w) := by
  have HU := Lib.hid hu
  have HDI := Lib.hid (fun k => dep_in hg hp q k)
  have hlen := rowOf_list hg hp q
  have hx0 := Ext.alloc1 w (.cells #[.int .i64 n, u] 31)
  have HX0 := Lib.hid hx0
  obtain ⟨d, hd⟩ : ∃ d, d = rowOf n T p q := ⟨_, rfl⟩
  have cR : ∀ W, Ext w W → Calls Try.prog 30 #[.agg #[.int .i64 n, u], .int .i64 p, .int .i64 ((q : Int) + 1)] W (NewRow d W) := fun W hW => by
    rw [hd]
    exact l4At_any n _ T p q _ (hu.ext hW) hg hp hq
  have CR := Lib.hid cR
  have hgoal : depsL n T (p, q) = depsTo d (p, q) d.l.length := by unfold depsL; simp only [hd]
  rw [hgoal]
  rw [← hd] at hlen HDI
  obtain ⟨au, cu, rfl, hlu, _, _⟩ := hu
  clear hx0 cR hgoal hd hg
  go_enter Try.func51, Try.ntmps51
  go_wp2_with fail
  refine (CR.out _ HX0.out).mono ?_
  rintro e w1 ⟨ux, rfl, fx, x1⟩
  obtain ⟨ax, kx, rfl⟩ := fx.form
  have hfd := fun W => field_rowA d.b d.v d.st d.k d.i d.f d.t d.a d.s (.slice ax d.l.length kx) W
  have I1 := Lib.hid fx.ints
  have X1 := Lib.hid (HX0.out.trans x1)
  clear fx x1
  obtain ⟨W, hW⟩ : ∃ W, W = w1.alloc (.cells #[.int .i64 d.s, .slice ax d.l.length kx] 51) := ⟨_, rfl⟩
  have hbx := attrAt_new w1 51 d.s (.slice ax d.l.length kx)
  rw [← hW] at hbx
  have xW : Ext w1 W := by rw [hW]; exact Ext.alloc1 _ _
  have HBX := Lib.hid hbx
  have IW := Lib.hid (I1.out.ext xW)
  have XW := Lib.hid (X1.out.trans xW)
  have HWW := Lib.hid hW
  have HWS : Hid (w.heap.size ≤ W.heap.size) := Lib.hid (X1.out.trans xW).size
  clear hbx xW hW X1 I1
  go_wp2
  rw [← HWW.out]
  go_loopw [8, 20] (fun o i wr => ∃ k : Nat, k ≤ d.l.length ∧ i = .int .i64 k ∧ Hid (FreshSS W.heap.size wr o ((depsTo d (p, q) k).map pairOf)) ∧ Hid (Ext W wr)) (fun _ i _ => d.l.length - (intOf i).toNat)
  case atStart => exact ⟨0, Nat.zero_le _, rfl, Lib.hid (FreshSS.nil _ _), Lib.hid (Ext.refl _)⟩
  case round =>
    obtain ⟨k, hk, rfl, HF, HX⟩ := hrel
    by_cases hlt : k < d.l.length
    · obtain ⟨a', c', e', hlx, _, dl⟩ := IW.out.ext HX.out
      obtain ⟨bl, ol, ha', dl⟩ := dl (by omega)
      simp only [Value.slice.injEq] at e'
      have eax : ax = some ⟨bl, ol, none⟩ := e'.1.trans ha'
      have ekx : kx = c' := e'.2.2
      subst eax
      have gl := dl k hlt
      have gl2 : wr.cell? ⟨bl, ol + k, none⟩ = some (.int .i64 (depI d k)) := gl
      have hdk := HDI.out k
      obtain ⟨m, hm⟩ : ∃ m, m = depN d k := ⟨_, rfl⟩
      have hmd : depI d k = (m : Int) := by rw [hm]; unfold depN; omega
      rw [hmd] at gl2
      obtain ⟨t0, t1⟩ := HBX.out.ext HX.out
      have hm6 : m ≤ 6 := by omega
      have HMM := Lib.hid hm
      have HDL : Hid ((depsTo d (p, q) k).length ≤ 1000) := Lib.hid (by
        have := depsTo_len (r := d) (x := (p, q)) (fun k => by have := HDI.out k; unfold depN; omega) k
        omega)
      clear e' dl gl hdk hm hmd ha' ekx hlx
      go_wp2
      go_loopw [8, 11] (fun o i wr => ∃ j : Nat, j ≤ m ∧ i = .int .i64 ((j : Int) + 1) ∧ Hid (FreshSS W.heap.size wr o ((depsTo d (p, q) k ++ depsAt (p, q) k j).map pairOf)) ∧ Hid (Ext W wr)) (fun _ i _ => m + 1 - (intOf i).toNat)
      case atStart => exact ⟨0, Nat.zero_le _, rfl, Lib.hid (by have h := HF.out; simpa [depsAt] using h), HX⟩
      case round =>
        clear gl2 t0 t1 HF HX
        obtain ⟨j, hj, rfl, HF, HX⟩ := hrel
        by_cases hjm : j < m
        · by_cases hx : (k, j) = (p, q)
          · have hno : depsAt (p, q) k (j + 1) = depsAt (p, q) k j := by rw [depsAt_succ, if_pos hx]; simp
            have FN : Hid (FreshSS W.heap.size wr u8 ((depsTo d (p, q) k ++ depsAt (p, q) k (j + 1)).map pairOf)) := Lib.hid (by rw [hno]; exact HF.out)
            simp only [Prod.mk.injEq] at hx
            obtain ⟨rfl, rfl⟩ := hx
            clear hno HF
            go_wp2
            go_roundw
            case rel => exact ⟨j + 1, by omega, by go_num, FN, HX⟩
            case measure => simp [intOf]; omega
          · by_cases hkp : k = p
            · have hjq : ¬ j = q := fun e => hx (by rw [hkp, e])
              have n1 : ((k : Int) != (p : Int)) = false := by simp [hkp]
              have n2 : ((j : Int) + 1 != (q : Int) + 1) = true := by simp; omega
              clear hkp hjq
              have hyes : depsAt (p, q) k (j + 1) = depsAt (p, q) k j ++ [(k, j)] := by rw [depsAt_succ, if_neg hx]
              have HYES := Lib.hid hyes
              have HG := Lib.hid HF.out
              have HBB : Hid (W.heap.size ≤ wr.heap.size) := Lib.hid HX.out.size
              have hll : ((depsTo d (p, q) k ++ depsAt (p, q) k j).map pairOf).length ≤ 1048576 := by
                rw [List.length_map, List.length_append]
                have h1 := depsAt_len (p, q) k j
                have h2 := HDL.out
                omega
              have HLL := Lib.hid hll
              have hfr : Fresh wr.heap.size ((wr.alloc (.cells #[.int .i64 k, .int .i64 ((j : Int) + 1)] 3)).alloc (.cells #[.slice (some ⟨wr.heap.size, 0, none⟩) 2 2] 49)) (.slice (some ⟨wr.heap.size, 0, none⟩) 2 2) (pairOf (k, j)) := (fresh_lit wr (pairOf (k, j)) #[.int .i64 k, .int .i64 ((j : Int) + 1)] wr.heap.size rfl (Nat.le_refl _) (by simp [pairOf])).ext (Ext.alloc1 _ _)
              have HFR := Lib.hid hfr
              clear hyes hll hfr hx
              go_wp2_with (at_builtin; refine wpList_pushSS rfl _ _ rfl W.heap.size _ ((depsTo d (p, q) k ++ depsAt (p, q) k j).map pairOf) (pairOf (k, j)) wr rfl HG.out (Ext.alloc2 _ _ _) _ HFR.out ⟨wr.heap.size + 1, 0, none⟩ 1 rfl (by go_simp) rfl HLL.out HBB.out ?_)
              intro v' w' f' k'
              have HZ : Hid (Ext W w') := Lib.hid (k' W (HX.out.trans (Ext.alloc2 _ _ _)) (Nat.le_refl _))
              have FF : Hid (FreshSS W.heap.size w' v' ((depsTo d (p, q) k ++ depsAt (p, q) k (j + 1)).map pairOf)) := Lib.hid (by
                have e : (depsTo d (p, q) k ++ depsAt (p, q) k (j + 1)).map pairOf = (depsTo d (p, q) k ++ depsAt (p, q) k j).map pairOf ++ [pairOf (k, j)] := by rw [HYES.out]; simp
                rw [e]
                rw [List.map_append, List.append_assoc]
                exact f')
              clear f' k' HG HF HX
              go_wp2
              go_roundw
              case rel => exact ⟨j + 1, by omega, by go_num, FF, HZ⟩
              case measure => simp [intOf]; omega
            · have n1 : ((k : Int) != (p : Int)) = true := by simp; omega
              clear hkp
              have hyes : depsAt (p, q) k (j + 1) = depsAt (p, q) k j ++ [(k, j)] := by rw [depsAt_succ, if_neg hx]
              have HYES := Lib.hid hyes
              have HG := Lib.hid HF.out
              have HBB : Hid (W.heap.size ≤ wr.heap.size) := Lib.hid HX.out.size
              have hll : ((depsTo d (p, q) k ++ depsAt (p, q) k j).map pairOf).length ≤ 1048576 := by
                rw [List.length_map, List.length_append]
                have h1 := depsAt_len (p, q) k j
                have h2 := HDL.out
                omega
              have HLL := Lib.hid hll
              have hfr : Fresh wr.heap.size ((wr.alloc (.cells #[.int .i64 k, .int .i64 ((j : Int) + 1)] 3)).alloc (.cells #[.slice (some ⟨wr.heap.size, 0, none⟩) 2 2] 49)) (.slice (some ⟨wr.heap.size, 0, none⟩) 2 2) (pairOf (k, j)) := (fresh_lit wr (pairOf (k, j)) #[.int .i64 k, .int .i64 ((j : Int) + 1)] wr.heap.size rfl (Nat.le_refl _) (by simp [pairOf])).ext (Ext.alloc1 _ _)
              have HFR := Lib.hid hfr
              clear hyes hll hfr hx
              go_wp2_with (at_builtin; refine wpList_pushSS rfl _ _ rfl W.heap.size _ ((depsTo d (p, q) k ++ depsAt (p, q) k j).map pairOf) (pairOf (k, j)) wr rfl HG.out (Ext.alloc2 _ _ _) _ HFR.out ⟨wr.heap.size + 1, 0, none⟩ 1 rfl (by go_simp) rfl HLL.out HBB.out ?_)
              intro v' w' f' k'
              have HZ : Hid (Ext W w') := Lib.hid (k' W (HX.out.trans (Ext.alloc2 _ _ _)) (Nat.le_refl _))
              have FF : Hid (FreshSS W.heap.size w' v' ((depsTo d (p, q) k ++ depsAt (p, q) k (j + 1)).map pairOf)) := Lib.hid (by
                have e : (depsTo d (p, q) k ++ depsAt (p, q) k (j + 1)).map pairOf = (depsTo d (p, q) k ++ depsAt (p, q) k j).map pairOf ++ [pairOf (k, j)] := by rw [HYES.out]; simp
                rw [e]
                rw [List.map_append, List.append_assoc]
                exact f')
              clear f' k' HG HF HX
              go_wp2
              go_roundw
              case rel => exact ⟨j + 1, by omega, by go_num, FF, HZ⟩
              case measure => simp [intOf]; omega
        · obtain rfl : j = m := by omega
          have FN : Hid (FreshSS W.heap.size wr u8 ((depsTo d (p, q) (k + 1)).map pairOf)) := Lib.hid (by rw [depsTo_succ, ← HMM.out]; exact HF.out)
          clear HF
          go_wp2
          go_roundw
          case rel => exact ⟨k + 1, by omega, by go_num, FN, HX⟩
          case measure => simp [intOf]; omega
    · obtain rfl : k = d.l.length := by omega
      obtain ⟨t0, t1⟩ := HBX.out.ext HX.out
      have XE := Lib.hid (XW.out.trans HX.out)
      go_wp2
      go_ret
      exact ⟨_, rfl, HF.out.more HWS.out, XE.out⟩

end Go.Proofs.Ytkhdgmgacfhcgaa

namespace Go.Proofs.Ytkhdgmgacfhcgaa
open Go.RowKit Go.Maps
set_option linter.unusedVariables false

/-- All instances on which a row hangs. -/
def hungAt (k m : Nat) : List (Nat × Nat) := (List.range m).map fun i => (k, i)
def depM (r : RowD) (k : Nat) : Nat := (depI r k).toNat
def hungTo (r : RowD) (k : Nat) : List (Nat × Nat) := (List.range k).flatMap fun p => hungAt p (depM r p)
def hungL (r : RowD) : List (Nat × Nat) := hungTo r r.l.length
theorem hungAt_succ (k m : Nat) : hungAt k (m + 1) = hungAt k m ++ [(k, m)] := by simp [hungAt, List.range_succ]
theorem hungTo_succ (r : RowD) (k : Nat) : hungTo r (k + 1) = hungTo r k ++ hungAt k (depM r k) := by simp [hungTo, List.range_succ]
theorem hungAt_len (k m : Nat) : (hungAt k m).length = m := by simp [hungAt]
theorem hungTo_len {r : RowD} (h : ∀ k, depM r k ≤ 6) (k : Nat) : (hungTo r k).length ≤ 6 * k := by
  induction k with
  | zero => simp [hungTo]
  | succ k ih =>
    rw [hungTo_succ, List.length_append, hungAt_len]
    have := h k
    omega
theorem mem_hungL {r : RowD} {y : Nat × Nat} : y ∈ hungL r ↔ y.1 < r.l.length ∧ y.2 < depM r y.1 := by
  unfold hungL hungTo hungAt
  rw [List.mem_flatMap]
  constructor
  · rintro ⟨p, hp, hy⟩
    obtain ⟨i, hi, rfl⟩ := List.mem_map.1 hy
    exact ⟨List.mem_range.1 hp, List.mem_range.1 hi⟩
  · rintro ⟨h1, h2⟩
    exact ⟨y.1, List.mem_range.2 h1, List.mem_map.2 ⟨y.2, List.mem_range.2 h2, rfl⟩⟩

/-- A list of instances comes back, in new memory. -/
def NewInst (L : List (Nat × Nat)) (w : World) (e : Ending) (w' : World) : Prop := ∃ v, e = .returned v ∧ FreshIn w.heap.size w' v L ∧ Ext w w'
theorem FreshIn.more {B B' : Nat} {w : World} {v : Value} {L : List (Nat × Nat)} (h : FreshIn B w v L) (hb : B' ≤ B) : FreshIn B' w v L := ownsRow_more h hb

set_option maxHeartbeats 2000000 in
set_option maxRecDepth 100000 in
theorem hungOn_any (r : RowD) (s : Int) (u : Value) (w : World) (hu : Ints w u r.l) (hl : r.l.length ≤ 5) (hd : ∀ k, 0 ≤ depI r k ∧ depI r k ≤ 6) :
    Calls Try.prog 45 #[.agg #[.int .i64 s, u]] w (NewInst (hungL r) w) := by
  obtain ⟨au, cu, rfl, hlu, _, hcu⟩ := hu
  have hx0 := Ext.alloc1 w (.cells #[.int .i64 s, .slice au r.l.length cu] 51)
  have HX0 := Lib.hid hx0
  have HD := Lib.hid hd
  unfold hungL
  clear hx0 hd
  go_enter Try.func45, Try.ntmps45
  go_wp2
  go_loopw [3, 10] (fun o i wr => ∃ k : Nat, k ≤ r.l.length ∧ i = .int .i64 k ∧ Hid (FreshIn w.heap.size wr o (hungTo r k)) ∧ Hid (Ext w wr)) (fun _ i _ => r.l.length - (intOf i).toNat)
  case atStart => exact ⟨0, Nat.zero_le _, rfl, Lib.hid (FreshIn.nil _ _), HX0⟩
  case round =>
    obtain ⟨k, hk, rfl, HF, HX⟩ := hrel
    by_cases hlt : k < r.l.length
    · obtain ⟨bu, ou, rfl, du⟩ := hcu (by omega)
      have gl : wr.cell? ⟨bu, ou + k, none⟩ = some (.int .i64 (depI r k)) := HX.out.cell (du k hlt)
      have hdk := HD.out k
      obtain ⟨m, hm⟩ : ∃ m, m = depM r k := ⟨_, rfl⟩
      have hmd : depI r k = (m : Int) := by rw [hm]; unfold depM; omega
      rw [hmd] at gl
      have hm6 : m ≤ 6 := by omega
      have HMM := Lib.hid hm
      have HLN : Hid ((hungTo r k).length ≤ 1000) := Lib.hid (by
        have := hungTo_len (r := r) (fun k => by have := HD.out k; unfold depM; omega) k
        omega)
      clear hdk hm hmd hcu du
      go_wp2
      go_loopw [3, 16] (fun o i wr => ∃ j : Nat, j ≤ m ∧ i = .int .i64 j ∧ Hid (FreshIn w.heap.size wr o (hungTo r k ++ hungAt k j)) ∧ Hid (Ext w wr)) (fun _ i _ => m - (intOf i).toNat)
      case atStart => exact ⟨0, Nat.zero_le _, rfl, Lib.hid (by have h := HF.out; simpa [hungAt] using h), HX⟩
      case round =>
        clear gl HF HX
        obtain ⟨j, hj, rfl, HF, HX⟩ := hrel
        by_cases hjm : j < m
        · have hll : (hungTo r k ++ hungAt k j).length ≤ 1048576 := by
            rw [List.length_append, hungAt_len]
            have := HLN.out
            omega
          have HLL := Lib.hid hll
          have HBB := Lib.hid HX.out.size
          clear hll
          go_wp2_with (at_builtin; refine wpList_pushI rfl _ _ rfl w.heap.size _ (hungTo r k ++ hungAt k j) (k, j) rfl (HF.out.ext (Ext.alloc1 _ _)) wr.heap.size 1 rfl (by go_simp) (by go_simp) HLL.out (Nat.le_trans HBB.out (Ext.alloc1 _ _).size) ?_)
          intro v' w4 f4 hg4 hk4
          have FN : Hid (FreshIn w.heap.size w4 v' (hungTo r k ++ hungAt k (j + 1))) := Lib.hid (by
            rw [hungAt_succ, ← List.append_assoc]
            first | exact f4 | (rw [List.append_assoc]; exact f4))
          have XN := Lib.hid (hk4 w (HX.out.trans (Ext.alloc1 _ _)) (Nat.le_refl _))
          clear f4 hg4 hk4 HF HX
          go_wp2
          go_roundw
          case rel => exact ⟨j + 1, by omega, by go_num, FN, XN⟩
          case measure => simp [intOf]; omega
        · obtain rfl : j = m := by omega
          have FN : Hid (FreshIn w.heap.size wr u3 (hungTo r (k + 1))) := Lib.hid (by rw [hungTo_succ, ← HMM.out]; exact HF.out)
          clear HF
          go_wp2
          go_roundw
          case rel => exact ⟨k + 1, by omega, by go_num, FN, HX⟩
          case measure => simp [intOf]; omega
    · obtain rfl : k = r.l.length := by omega
      go_wp2
      go_ret
      exact ⟨_, rfl, HF.out, HX.out⟩

end Go.Proofs.Ytkhdgmgacfhcgaa

namespace Go.Proofs.Ytkhdgmgacfhcgaa
open Go.RowKit Go.Maps
set_option linter.unusedVariables false

/-- A set of settled instances that hang on none but each other. -/
def ClosedC (n : Int) (T : List (List RowD)) (C : Nat × Nat → Prop) : Prop := (∀ x, C x → instCom T x.1 x.2 = true) ∧ ∀ x, C x → ∀ y ∈ hungL (rowOf n T x.1 x.2), C y
def readyP (n : Int) (T : List (List RowD)) (x : Nat × Nat) : Prop := ∃ C : Nat × Nat → Prop, ClosedC n T C ∧ C x
noncomputable def readyB (n : Int) (T : List (List RowD)) (p q : Nat) : Bool := @decide (readyP n T (p, q)) (Classical.propDecidable _)
theorem readyB_iff {n : Int} {T : List (List RowD)} {p q : Nat} : readyB n T p q = true ↔ readyP n T (p, q) := by
  unfold readyB
  exact @decide_eq_true_iff _ (Classical.propDecidable _)
/-- Between all that is settled and all that can be done. -/
structure Betw (n : Int) (T : List (List RowD)) (S : Nat → Nat → Bool) : Prop where
  com : ∀ p q, S p q = true → instCom T p q = true
  all : ∀ C, ClosedC n T C → ∀ x : Nat × Nat, C x → S x.1 x.2 = true
theorem Betw.start (n : Int) (T : List (List RowD)) : Betw n T (instCom T) := ⟨fun _ _ h => h, fun C hc x hx => hc.1 x hx⟩
def AllHere (n : Int) (T : List (List RowD)) (S : Nat → Nat → Bool) (p q : Nat) : Prop := (hungL (rowOf n T p q)).all (fun x => S x.1 x.2) = true
theorem Betw.drop {n : Int} {T : List (List RowD)} {S : Nat → Nat → Bool} (h : Betw n T S) {p q : Nat} (hn : ¬ AllHere n T S p q) : Betw n T (fun p' q' => S p' q' && !(decide (p' = p) && decide (q' = q))) := by
  refine ⟨fun p' q' hs => h.com p' q' (by simp at hs; exact hs.1), fun C hc x hx => ?_⟩
  have hs := h.all C hc x hx
  by_cases e : x.1 = p ∧ x.2 = q
  · exfalso
    refine hn ?_
    unfold AllHere
    rw [List.all_eq_true]
    intro y hy
    have ex : x = (p, q) := Prod.ext e.1 e.2
    subst ex
    exact h.all C hc y (hc.2 _ hx y hy)
  · have : (decide (x.1 = p) && decide (x.2 = q)) = false := by simpa using e
    rw [hs, this]
    rfl
theorem Betw.done {n : Int} {T : List (List RowD)} {S : Nat → Nat → Bool} (h : Betw n T S) (hc : ∀ p q, S p q = true → AllHere n T S p q) (p q : Nat) : readyB n T p q = S p q := by
  rw [Bool.eq_iff_iff, readyB_iff]
  constructor
  · rintro ⟨C, hC, hx⟩
    exact h.all C hC _ hx
  · intro hs
    refine ⟨fun x => S x.1 x.2 = true, ⟨fun x hx => h.com _ _ hx, fun x hx y hy => ?_⟩, hs⟩
    have := hc _ _ hx
    unfold AllHere at this
    exact List.all_eq_true.1 this y hy
end Go.Proofs.Ytkhdgmgacfhcgaa

namespace Go.Proofs.Ytkhdgmgacfhcgaa
open Go.RowKit Go.Maps
set_option linter.unusedVariables false

theorem mem_insL {L : List (Nat × Nat)} {x z : Nat × Nat} : z ∈ insL L x ↔ z = x ∨ z ∈ L := by
  unfold insL
  conv => rhs; rw [← List.take_append_drop (insK L x) L]
  simp only [List.mem_append, List.mem_singleton]
  constructor
  · rintro ((h | h) | h)
    · exact .inr (.inl h)
    · exact .inl h
    · exact .inr (.inr h)
  · rintro (h | h | h)
    · exact .inl (.inr h)
    · exact .inl (.inl h)
    · exact .inr h

theorem mem_depsL {n : Int} {T : List (List RowD)} {x z : Nat × Nat} : z ∈ depsL n T x ↔ z ∈ hungL (rowOf n T x.1 x.2) ∧ z ≠ x := by
  unfold depsL depsTo hungL hungTo depsAt hungAt depN depM
  simp only [List.mem_flatMap, List.mem_range, List.mem_map, List.mem_filter]
  constructor
  · rintro ⟨p, hp, i, ⟨hi, hne⟩, rfl⟩
    exact ⟨⟨p, hp, i, hi, rfl⟩, by simpa using hne⟩
  · rintro ⟨⟨p, hp, i, hi, rfl⟩, hne⟩
    exact ⟨p, hp, i, ⟨hi, by simpa using hne⟩, rfl⟩

theorem insAt_spec (L : List (Nat × Nat)) (x : Nat × Nat) : ∀ k, k ≤ L.length → (∀ i y, insAt L x k ≤ i → i < k → L[i]? = some y → lexL x y) ∧ (insAt L x k = 0 ∨ ∃ y, L[insAt L x k - 1]? = some y ∧ ¬ lexL x y)
  | 0, _ => ⟨fun i y _ h => by omega, .inl rfl⟩
  | k + 1, hk => by
    have e : L[k]? = some (L[k]'(by omega)) := List.getElem?_eq_getElem _
    by_cases h : lexL x (L[k]'(by omega))
    · have e2 : insAt L x (k + 1) = insAt L x k := by
        conv => lhs; unfold insAt
        rw [e]
        simp only [if_pos h]
      rw [e2]
      obtain ⟨i1, i2⟩ := insAt_spec L x k (by omega)
      refine ⟨fun i y h1 h2 hy => ?_, i2⟩
      by_cases hi : i = k
      · subst hi
        rw [e] at hy
        rw [← Option.some.inj hy]; exact h
      · exact i1 i y h1 (by omega) hy
    · have e2 : insAt L x (k + 1) = k + 1 := by
        conv => lhs; unfold insAt
        rw [e]
        simp only [if_neg h]
      rw [e2]
      exact ⟨fun i y h1 h2 _ => by omega, .inr ⟨_, e, h⟩⟩
theorem lexL_trans {a b c : Nat × Nat} (h : lexL a b) (k : lexL b c) : lexL a c := by unfold lexL at *; omega
theorem lexL_total {a b : Nat × Nat} (h : ¬ lexL a b) (hne : a ≠ b) : lexL b a := by
  unfold lexL at *
  have : ¬ (a.1 = b.1 ∧ a.2 = b.2) := fun e => hne (Prod.ext e.1 e.2)
  omega
theorem insL_sorted {L : List (Nat × Nat)} {x : Nat × Nat} (h : L.Pairwise lexL) (hx : x ∉ L) : (insL L x).Pairwise lexL := by
  obtain ⟨h1, h2⟩ := insAt_spec L x L.length (Nat.le_refl _)
  have hk : insK L x ≤ L.length := insAt_le L x _
  have hdrop : ∀ z ∈ L.drop (insK L x), lexL x z := by
    intro z hz
    obtain ⟨i, hi, e⟩ := List.getElem_of_mem hz
    rw [List.length_drop] at hi
    rw [List.getElem_drop] at e
    exact h1 (insK L x + i) z (Nat.le_add_right _ _) (by omega) (by rw [List.getElem?_eq_getElem (by omega), e])
  have htake : ∀ z ∈ L.take (insK L x), lexL z x := by
    intro z hz
    obtain ⟨i, hi, e⟩ := List.getElem_of_mem hz
    rw [List.length_take] at hi
    rw [List.getElem_take] at e
    have hlt : i < L.length := by omega
    rcases h2 with h0 | ⟨y, hy, hn⟩
    · have : insK L x = 0 := h0
      omega
    · have hy' : L[insK L x - 1]? = some y := hy
      have hlt2 := (List.getElem?_eq_some_iff.1 hy').1
      have hym : y ∈ L := List.mem_of_getElem? hy'
      have hyx : lexL y x := lexL_total hn (fun e => hx (by rw [e]; exact hym))
      by_cases hi2 : i = insK L x - 1
      · have : z = y := by
          rw [← e]
          have := (List.getElem?_eq_some_iff.1 hy').2
          rw [← this]
          congr
        rw [this]; exact hyx
      · have hlex : lexL z y := by
          have := List.pairwise_iff_getElem.1 h i (insK L x - 1) hlt hlt2 (by omega)
          rw [e, (List.getElem?_eq_some_iff.1 hy').2] at this
          exact this
        exact lexL_trans hlex hyx
  unfold insL
  rw [List.append_assoc, List.pairwise_append]
  refine ⟨h.sublist (List.take_sublist _ _), ?_, ?_⟩
  · rw [List.singleton_append, List.pairwise_cons]
    exact ⟨hdrop, h.sublist (List.drop_sublist _ _)⟩
  · intro a ha b hb
    rw [List.singleton_append, List.mem_cons] at hb
    rcases hb with rfl | hb
    · exact htake a ha
    · exact lexL_trans (htake a ha) (hdrop b hb)

/-- One instance more to which one comes: the met ones, and the blockers. -/
def addB (T : List (List RowD)) (s : List (Nat × Nat) × List (Nat × Nat)) (x : Nat × Nat) : List (Nat × Nat) × List (Nat × Nat) :=
  if x ∈ s.1 ∨ x ∈ s.2 then s else if instCom T x.1 x.2 then (s.1 ++ [x], s.2) else (s.1, insL s.2 x)

/-- What holds of the met ones and the blockers, the first i of the met ones and the first j that the next one hangs on looked through. -/
structure BlkI (n : Int) (T : List (List RowD)) (x0 : Nat × Nat) (i j : Nat) (s : List (Nat × Nat) × List (Nat × Nat)) : Prop where
  first : x0 ∈ s.1
  com : ∀ z ∈ s.1, instCom T z.1 z.2 = true
  not : ∀ z ∈ s.2, instCom T z.1 z.2 = false
  nodup : s.1.Nodup
  done : ∀ k y, k < i → s.1[k]? = some y → ∀ z ∈ depsL n T y, z ∈ s.1 ∨ z ∈ s.2
  part : ∀ y, s.1[i]? = some y → ∀ z ∈ (depsL n T y).take j, z ∈ s.1 ∨ z ∈ s.2
  led : ∀ C : Nat × Nat → Prop, (∀ y, C y → instCom T y.1 y.2 = true → ∀ z ∈ hungL (rowOf n T y.1 y.2), C z) → C x0 → (∀ z ∈ s.1, C z) ∧ ∀ z ∈ s.2, C z
  sorted : s.2.Pairwise lexL

theorem BlkI.start {n : Int} {T : List (List RowD)} {x0 : Nat × Nat} (h : instCom T x0.1 x0.2 = true) : BlkI n T x0 0 0 ([x0], []) where
  first := by simp
  com := fun z hz => by obtain rfl : z = x0 := by simpa using hz
                        exact h
  not := fun z hz => by cases hz
  nodup := by simp
  done := fun k y hk => by omega
  part := fun y _ z hz => by simp at hz
  led := fun C _ hC => ⟨fun z hz => by obtain rfl : z = x0 := by simpa using hz
                                       exact hC, fun z hz => by cases hz⟩
  sorted := List.Pairwise.nil

theorem addB_keep {T : List (List RowD)} {s : List (Nat × Nat) × List (Nat × Nat)} {x : Nat × Nat} : (∀ (k : Nat) (y : Nat × Nat), s.1[k]? = some y → (addB T s x).1[k]? = some y) ∧ (∀ z, z ∈ s.1 ∨ z ∈ s.2 → z ∈ (addB T s x).1 ∨ z ∈ (addB T s x).2) ∧ (x ∈ (addB T s x).1 ∨ x ∈ (addB T s x).2) := by
  unfold addB
  split
  · rename_i h
    exact ⟨fun _ _ h => h, fun _ h => h, h⟩
  · split
    · refine ⟨fun k y h => ?_, fun z h => ?_, .inl (by simp)⟩
      · have hk := (List.getElem?_eq_some_iff.1 h).1
        rw [List.getElem?_append_left hk]
        exact h
      · rcases h with h | h
        · exact .inl (List.mem_append_left _ h)
        · exact .inr h
    · refine ⟨fun _ _ h => h, fun z h => ?_, .inr (mem_insL.2 (.inl rfl))⟩
      rcases h with h | h
      · exact .inl h
      · exact .inr (mem_insL.2 (.inr h))

theorem BlkI.step {n : Int} {T : List (List RowD)} {x0 : Nat × Nat} {i j : Nat} {s : List (Nat × Nat) × List (Nat × Nat)} (h : BlkI n T x0 i j s) {y x : Nat × Nat} (hy : s.1[i]? = some y) (hx : (depsL n T y)[j]? = some x) : BlkI n T x0 i (j + 1) (addB T s x) := by
  obtain ⟨k1, k2, k3⟩ := addB_keep (T := T) (s := s) (x := x)
  have old : ∀ k, k ≤ i → ∀ y', (addB T s x).1[k]? = some y' → s.1[k]? = some y' := by
    intro k hk y' h'
    have hi := (List.getElem?_eq_some_iff.1 hy).1
    have e : s.1[k]? = some (s.1[k]'(by omega)) := List.getElem?_eq_getElem _
    have := k1 k _ e
    rw [this] at h'
    rw [e, h']
  have hmem : x ∈ depsL n T y := List.mem_of_getElem? hx
  have hled : ∀ C : Nat × Nat → Prop, (∀ y, C y → instCom T y.1 y.2 = true → ∀ z ∈ hungL (rowOf n T y.1 y.2), C z) → C x0 → C x := fun C hC h0 => hC y ((h.led C hC h0).1 y (List.mem_of_getElem? hy)) (h.com y (List.mem_of_getElem? hy)) x (mem_depsL.1 hmem).1
  have hdone : ∀ k y', k < i → (addB T s x).1[k]? = some y' → ∀ z ∈ depsL n T y', z ∈ (addB T s x).1 ∨ z ∈ (addB T s x).2 := fun k y' hk h' z hz => k2 z (h.done k y' hk (old k (by omega) y' h') z hz)
  have hpart : ∀ y', (addB T s x).1[i]? = some y' → ∀ z ∈ (depsL n T y').take (j + 1), z ∈ (addB T s x).1 ∨ z ∈ (addB T s x).2 := by
    intro y' h' z hz
    have e := old i (Nat.le_refl _) y' h'
    obtain rfl : y = y' := by rw [hy] at e; exact Option.some.inj e
    rw [List.take_add_one, hx] at hz
    rcases List.mem_append.1 hz with hz | hz
    · exact k2 z (h.part y hy z hz)
    · obtain rfl : z = x := by simpa using hz
      exact k3
  refine ⟨?_, ?_, ?_, ?_, hdone, hpart, ?_, ?_⟩
  · have h0 := h.first
    unfold addB
    split
    · exact h0
    · split
      · exact List.mem_append_left _ h0
      · exact h0
  · have h0 := h.com
    unfold addB
    split
    · exact h0
    · split
      · rename_i hc
        intro z hz
        rcases List.mem_append.1 hz with hz | hz
        · exact h0 z hz
        · obtain rfl : z = x := by simpa using hz
          exact hc
      · exact h0
  · have h0 := h.not
    unfold addB
    split
    · exact h0
    · split
      · exact h0
      · rename_i hc
        intro z hz
        rcases mem_insL.1 hz with rfl | hz
        · simpa using hc
        · exact h0 z hz
  · have h0 := h.nodup
    unfold addB
    split
    · exact h0
    · rename_i hn
      split
      · refine List.nodup_append.2 ⟨h0, by simp, fun a ha b hb => ?_⟩
        obtain rfl : b = x := by simpa using hb
        intro e
        subst e
        exact hn (.inl ha)
      · exact h0
  · intro C hC hx0
    have h0 := h.led C hC hx0
    have hxc := hled C hC hx0
    unfold addB
    split
    · exact h0
    · split
      · refine ⟨fun z hz => ?_, h0.2⟩
        rcases List.mem_append.1 hz with hz | hz
        · exact h0.1 z hz
        · obtain rfl : z = x := by simpa using hz
          exact hxc
      · refine ⟨h0.1, fun z hz => ?_⟩
        rcases mem_insL.1 hz with rfl | hz
        · exact hxc
        · exact h0.2 z hz
  · have h0 := h.sorted
    unfold addB
    split
    · exact h0
    · rename_i hn
      split
      · exact h0
      · exact insL_sorted h0 (fun e => hn (.inr e))

theorem BlkI.next {n : Int} {T : List (List RowD)} {x0 : Nat × Nat} {i j : Nat} {s : List (Nat × Nat) × List (Nat × Nat)} (h : BlkI n T x0 i j s) {y : Nat × Nat} (hy : s.1[i]? = some y) (hj : (depsL n T y).length ≤ j) : BlkI n T x0 (i + 1) 0 s := by
  refine ⟨h.first, h.com, h.not, h.nodup, fun k y' hk h' z hz => ?_, fun y' _ z hz => by simp at hz, h.led, h.sorted⟩
  by_cases hki : k < i
  · exact h.done k y' hki h' z hz
  · obtain rfl : k = i := by omega
    obtain rfl : y = y' := by rw [hy] at h'; exact Option.some.inj h'
    exact h.part y hy z (by rw [List.take_of_length_le hj]; exact hz)

/-- No blocker: ready; and the other way about. -/
theorem BlkI.ready {n : Int} {T : List (List RowD)} {x0 : Nat × Nat} {i : Nat} {s : List (Nat × Nat) × List (Nat × Nat)} (h : BlkI n T x0 i 0 s) (hi : s.1.length ≤ i) : s.2 = [] ↔ readyP n T x0 := by
  constructor
  · intro h0
    refine ⟨fun z => z ∈ s.1, ⟨h.com, fun y hy z hz => ?_⟩, h.first⟩
    by_cases e : z = y
    · rw [e]; exact hy
    · obtain ⟨k, hk⟩ := List.getElem?_of_mem hy
      have hlt := (List.getElem?_eq_some_iff.1 hk).1
      rcases h.done k y (by omega) hk z (mem_depsL.2 ⟨hz, e⟩) with g | g
      · exact g
      · rw [h0] at g; cases g
  · rintro ⟨C, hC, h0⟩
    have hl := (h.led C (fun y hy _ z hz => hC.2 y hy z hz) h0).2
    cases hs : s.2 with
    | nil => rfl
    | cons z r =>
      have hz : z ∈ s.2 := by rw [hs]; simp
      have a := hC.1 z (hl z hz)
      rw [h.not z hz] at a
      cases a

theorem insL_perm (L : List (Nat × Nat)) (x : Nat × Nat) : (insL L x).Perm (x :: L) := by
  unfold insL
  rw [List.append_assoc, List.singleton_append]
  have h := List.perm_middle (a := x) (l₁ := L.take (insK L x)) (l₂ := L.drop (insK L x))
  rw [List.take_append_drop] at h
  exact h

/-- The met ones and the blockers are instances that a table may have, each once. -/
structure BlkB (s : List (Nat × Nat) × List (Nat × Nat)) : Prop where
  n1 : s.1.Nodup
  n2 : s.2.Nodup
  in1 : ∀ z ∈ s.1, z.1 < 5 ∧ z.2 < 6
  in2 : ∀ z ∈ s.2, z.1 < 5 ∧ z.2 < 6

theorem few_of {l : List (Nat × Nat)} (hn : l.Nodup) (hb : ∀ z ∈ l, z.1 < 5 ∧ z.2 < 6) : l.length ≤ 30 := by
  have h := nodup_len 30 (l.map fun z => z.1 * 6 + z.2) (by
    unfold List.Nodup at hn ⊢
    rw [List.pairwise_map]
    refine List.Pairwise.imp_of_mem ?_ hn
    intro a b ha hb' hne e
    have h1 := hb a ha
    have h2 := hb b hb'
    apply hne
    exact Prod.ext (by omega) (by omega)) (by
    intro i hi
    obtain ⟨z, hz, rfl⟩ := List.mem_map.1 hi
    have := hb z hz
    omega)
  rwa [List.length_map] at h
theorem BlkB.few {s : List (Nat × Nat) × List (Nat × Nat)} (h : BlkB s) : s.1.length ≤ 30 ∧ s.2.length ≤ 30 := ⟨few_of h.n1 h.in1, few_of h.n2 h.in2⟩

theorem depsL_in {n : Int} {T : List (List RowD)} (hg : goodTab n T = true) {y x : Nat × Nat} (hy : y.1 < T.length) (hx : x ∈ depsL n T y) : x.1 < 5 ∧ x.2 < 6 := by
  have h := (mem_depsL.1 hx).1
  unfold hungL hungTo hungAt depM at h
  simp only [List.mem_flatMap, List.mem_range, List.mem_map] at h
  obtain ⟨p, hp, i, hi, rfl⟩ := h
  have h1 := rowOf_list hg hy y.2
  have h2 := dep_in hg hy y.2 p
  exact ⟨by show p < 5; omega, by show i < 6; omega⟩

theorem BlkB.step {n : Int} {T : List (List RowD)} (hg : goodTab n T = true) {s : List (Nat × Nat) × List (Nat × Nat)} (h : BlkB s) {y x : Nat × Nat} (hy : y.1 < T.length) (hx : x ∈ depsL n T y) : BlkB (addB T s x) := by
  have hb := depsL_in hg hy hx
  unfold addB
  split
  · exact h
  · rename_i hn
    split
    · refine ⟨List.nodup_append.2 ⟨h.n1, by simp, fun a ha b hb' => ?_⟩, h.n2, fun z hz => ?_, h.in2⟩
      · obtain rfl : b = x := by simpa using hb'
        intro e
        subst e
        exact hn (.inl ha)
      · rcases List.mem_append.1 hz with hz | hz
        · exact h.in1 z hz
        · obtain rfl : z = x := by simpa using hz
          exact hb
    · refine ⟨h.n1, (insL_perm s.2 x).nodup_iff.2 (List.nodup_cons.2 ⟨fun e => hn (.inr e), h.n2⟩), h.in1, fun z hz => ?_⟩
      rcases mem_insL.1 hz with rfl | hz
      · exact hb
      · exact h.in2 z hz
end Go.Proofs.Ytkhdgmgacfhcgaa

namespace Go.Proofs.Ytkhdgmgacfhcgaa
open Go.RowKit Go.Maps
set_option linter.unusedVariables false

/-- Rows of two numbers each in new memory. -/
def PRows (B : Nat) (w : World) (vs : List Value) (L : List (Nat × Nat)) : Prop :=
  vs.length = L.length ∧ ∀ (j : Nat) (u : Value) (x : Nat × Nat), vs[j]? = some u → L[j]? = some x → Fresh B w u (pairOf x)
theorem PRows.nil (B : Nat) (w : World) : PRows B w [] [] := ⟨rfl, fun j u x h => by simp at h⟩
theorem PRows.ext {B : Nat} {w w' : World} {vs : List Value} {L : List (Nat × Nat)} (h : PRows B w vs L) (e : Ext w w') : PRows B w' vs L := ⟨h.1, fun j u x hu hx => (h.2 j u x hu hx).ext e⟩
theorem PRows.more {B B' : Nat} {w : World} {vs : List Value} {L : List (Nat × Nat)} (h : PRows B w vs L) (hb : B' ≤ B) : PRows B' w vs L := ⟨h.1, fun j u x hu hx => (h.2 j u x hu hx).more hb⟩
theorem fresh_apart {B B' : Nat} {w : World} {v u : Value} {vs : List Value} {l : List Int} (h : FreshV B w v vs) (k : Fresh B' w u l) : u.ownBlock = none ∨ u.ownBlock ≠ v.ownBlock := by
  unfold FreshV at h
  unfold Fresh at k
  exact types_apart h k (by decide)
theorem PRows.kept {B B' : Nat} {w w' : World} {vs ms : List Value} {mv : Value} {L : List (Nat × Nat)} (h : PRows B w vs L) (hm : FreshV B' w mv ms) (g : w.grownBy w' mv.ownBlock) : PRows B w' vs L :=
  ⟨h.1, fun j u x hu hx => World.ownsRow.kept (h.2 j u x hu hx) g (fresh_apart hm (h.2 j u x hu hx))⟩
theorem PRows.snoc {B : Nat} {w : World} {vs : List Value} {L : List (Nat × Nat)} {u : Value} {x : Nat × Nat} (h : PRows B w vs L) (hu : Fresh B w u (pairOf x)) : PRows B w (vs ++ [u]) (L ++ [x]) := by
  refine ⟨by simp [h.1], fun j z y hz hy => ?_⟩
  by_cases hj : j < vs.length
  · rw [List.getElem?_append_left hj] at hz
    rw [List.getElem?_append_left (by rw [← h.1]; exact hj)] at hy
    exact h.2 j z y hz hy
  · rw [List.getElem?_append_right (by omega)] at hz
    rw [List.getElem?_append_right (by rw [← h.1]; omega)] at hy
    have hj' : j - vs.length = 0 := by
      have := (List.getElem?_eq_some_iff.1 hz).1
      simp at this; omega
    rw [hj'] at hz
    rw [← h.1, hj'] at hy
    simp at hz hy
    subst hz hy
    exact hu
theorem PRows.ins {B : Nat} {w : World} {vs : List Value} {L : List (Nat × Nat)} {xv : Value} {x : Nat × Nat} (h : PRows B w vs L) (hx : Fresh B w xv (pairOf x)) : PRows B w (vs.take (insK L x) ++ [xv] ++ vs.drop (insK L x)) (insL L x) := by
  have hk : insK L x ≤ L.length := insAt_le L x _
  refine ⟨?_, ?_⟩
  · unfold insL
    simp only [List.length_append, List.length_take, List.length_drop, h.1]
    rfl
  · intro j u y hu hy
    unfold insL at hy
    have hlt : (vs.take (insK L x)).length = insK L x := by rw [List.length_take, h.1]; omega
    have hlt2 : (L.take (insK L x)).length = insK L x := by rw [List.length_take]; omega
    rw [List.append_assoc] at hu hy
    by_cases h1 : j < insK L x
    · rw [List.getElem?_append_left (by omega), List.getElem?_take, if_pos h1] at hu hy
      exact h.2 j u y hu hy
    · rw [List.getElem?_append_right (by omega)] at hu hy
      rw [hlt] at hu
      rw [hlt2] at hy
      by_cases h2 : j - insK L x = 0
      · rw [h2] at hu hy
        obtain rfl : xv = u := by simpa using hu
        obtain rfl : x = y := by simpa using hy
        exact hx
      · obtain ⟨i, hi⟩ : ∃ i, j - insK L x = i + 1 := ⟨j - insK L x - 1, by omega⟩
        rw [hi, List.singleton_append, List.getElem?_cons_succ, List.getElem?_drop] at hu hy
        exact h.2 _ u y hu hy
theorem PRows.at {B : Nat} {w : World} {v : Value} {vs : List Value} {L : List (Nat × Nat)} (f : FreshV B w v vs) (h : PRows B w vs L) : PairsAt w v vs L :=
  ⟨h.1, f.vals, fun j u x hu hx => (h.2 j u x hu hx).ints⟩
theorem PairsAt.intss {w : World} {v : Value} {vs : List Value} {L : List (Nat × Nat)} (h : PairsAt w v vs L) : Intss w v (L.map pairOf) := by
  rcases h.reads with ⟨rfl, rfl⟩ | ⟨b, off, cap, rfl, h1, h2, h3⟩
  · obtain rfl : L = [] := List.eq_nil_of_length_eq_zero h.len.symm
    exact Intss.nil w
  · refine ⟨some ⟨b, off, none⟩, cap, by rw [List.length_map, h.len], by rw [List.length_map, ← h.len]; omega, ⟨by rw [List.length_map, ← h.len]; omega, h2, fun e => by cases e⟩, fun _ => ⟨b, off, rfl, fun j hj => ?_⟩⟩
    rw [List.length_map] at hj
    have hv : vs[j]? = some (vs[j]'(by rw [h.len]; exact hj)) := List.getElem?_eq_getElem _
    have hL : L[j]? = some L[j] := List.getElem?_eq_getElem hj
    refine ⟨_, h3 j _ hv, ?_⟩
    rw [List.getElem?_map, hL, Option.map_some, Option.getD_some]
    exact h.row j _ _ hv hL

/-- The met ones mv and the blockers ov, as the pairs of s. -/
structure BW (wb wr : World) (mv ov : Value) (ms os : List Value) (s : List (Nat × Nat) × List (Nat × Nat)) : Prop where
  fm : FreshV wb.heap.size wr mv ms
  fo : FreshV wb.heap.size wr ov os
  rm : PRows wb.heap.size wr ms s.1
  ro : PRows wb.heap.size wr os s.2
  ap : ov.ownBlock = none ∨ ov.ownBlock ≠ mv.ownBlock
  ext : Ext wb wr
/-- .. and the list dv, of the pairs P. -/
structure DW (wb wr : World) (mv dv : Value) (ds : List Value) (P : List (Nat × Nat)) : Prop where
  fd : FreshV wb.heap.size wr dv ds
  rd : PRows wb.heap.size wr ds P
  ap : dv.ownBlock = none ∨ dv.ownBlock ≠ mv.ownBlock
theorem BW.on {wb wr w' : World} {mv ov : Value} {ms os : List Value} {s : List (Nat × Nat) × List (Nat × Nat)} (h : BW wb wr mv ov ms os s) (e : Ext wr w') : BW wb w' mv ov ms os s :=
  ⟨h.fm.ext e, h.fo.ext e, h.rm.ext e, h.ro.ext e, h.ap, h.ext.trans e⟩
theorem DW.on {wb wr w' : World} {mv dv : Value} {ds : List Value} {P : List (Nat × Nat)} (h : DW wb wr mv dv ds P) (e : Ext wr w') : DW wb w' mv dv ds P := ⟨h.fd.ext e, h.rd.ext e, h.ap⟩
theorem ap_new {B B' : Nat} {w : World} {mv mv' ov : Value} {os : List Value} (h : ov.ownBlock = none ∨ ov.ownBlock ≠ mv.ownBlock) (fo : FreshV B w ov os) (loc : mv'.ownBlock = mv.ownBlock ∨ mv'.ownBlock = some B') (hB : w.heap.size ≤ B') : ov.ownBlock = none ∨ ov.ownBlock ≠ mv'.ownBlock := by
  rcases loc with e | e
  · rw [e]; exact h
  · rw [e]
    refine .inr fun hb => ?_
    have := (World.ownsRow.lt fo _ hb).2
    omega
theorem BW.meet {wb W w' : World} {mv mv' ov u : Value} {ms os : List Value} {s : List (Nat × Nat) × List (Nat × Nat)} {x : Nat × Nat} (h : BW wb W mv ov ms os s) (hu : Fresh wb.heap.size W u (pairOf x))
    (f : FreshV wb.heap.size w' mv' (ms ++ [u])) (g : W.grownBy w' mv.ownBlock) (k : Kept wb.heap.size W w') (loc : mv'.ownBlock = mv.ownBlock ∨ mv'.ownBlock = some W.heap.size) : BW wb w' mv' ov (ms ++ [u]) os (s.1 ++ [x], s.2) :=
  ⟨f, World.ownsRow.kept h.fo g h.ap, (h.rm.kept h.fm g).snoc (World.ownsRow.kept hu g (fresh_apart h.fm hu)), h.ro.kept h.fm g, ap_new h.ap h.fo loc (Nat.le_refl _), k wb h.ext (Nat.le_refl _)⟩
theorem DW.meet {wb W w' : World} {mv mv' dv : Value} {ms ds : List Value} {P : List (Nat × Nat)} (h : DW wb W mv dv ds P) (fm : FreshV wb.heap.size W mv ms) (g : W.grownBy w' mv.ownBlock) (loc : mv'.ownBlock = mv.ownBlock ∨ mv'.ownBlock = some W.heap.size) : DW wb w' mv' dv ds P :=
  ⟨World.ownsRow.kept h.fd g h.ap, h.rd.kept fm g, ap_new h.ap h.fd loc (Nat.le_refl _)⟩
theorem BW.block {wb W w' : World} {mv ov ov' u : Value} {ms os : List Value} {s : List (Nat × Nat) × List (Nat × Nat)} {x : Nat × Nat} (h : BW wb W mv ov ms os s) (hu : Fresh wb.heap.size W u (pairOf x))
    (f : FreshV W.heap.size w' ov' (os.take (insK s.2 x) ++ [u] ++ os.drop (insK s.2 x))) (e : Ext W w') : BW wb w' mv ov' ms (os.take (insK s.2 x) ++ [u] ++ os.drop (insK s.2 x)) (s.1, insL s.2 x) :=
  ⟨h.fm.ext e, f.more h.ext.size, h.rm.ext e, (h.ro.ext e).ins (hu.ext e), by
    cases ho : ov'.ownBlock with
    | none => exact .inl rfl
    | some g =>
      refine .inr fun hm => ?_
      have h1 := (World.ownsRow.lt f g ho).1
      have h2 := (World.ownsRow.lt h.fm g hm.symm).2
      omega, h.ext.trans e⟩
/-- A list that was made behind the met ones. -/
theorem DW.of {wb W w' : World} {mv dv : Value} {ms : List Value} {P : List (Nat × Nat)} (fm : FreshV wb.heap.size W mv ms) (hB : wb.heap.size ≤ W.heap.size) (f : FreshSS W.heap.size w' dv (P.map pairOf)) : ∃ ds, DW wb w' mv dv ds P := by
  obtain ⟨ds, h1, h2⟩ := f.vals
  refine ⟨ds, h1.more hB, ⟨by rw [h2.len, List.length_map], fun j u x hu hx => (h2.row j u _ hu (by rw [List.getElem?_map, hx]; rfl)).more hB⟩, ?_⟩
  cases ho : dv.ownBlock with
  | none => exact .inl rfl
  | some g =>
    refine .inr fun hm => ?_
    have h1 := (World.ownsRow.lt h1 g ho).1
    have h2 := (World.ownsRow.lt fm g hm.symm).2
    omega

theorem BW.start (wb : World) (p q : Nat) : BW wb ((wb.alloc (.cells #[.int .i64 p, .int .i64 ((q : Int) + 1)] 3)).alloc (.cells #[.slice (some ⟨wb.heap.size, 0, none⟩) 2 2] 49)) (.slice (some ⟨wb.heap.size + 1, 0, none⟩) 1 1) (.slice none 0 0) [.slice (some ⟨wb.heap.size, 0, none⟩) 2 2] [] ([(p, q)], []) := by
  refine ⟨?_, FreshV.nil _ _, ⟨rfl, fun j u x hu hx => ?_⟩, PRows.nil _ _, .inl rfl, Ext.alloc2 _ _ _⟩
  · have h := World.ownsRow_lit (base := wb.heap.size) (e := 49) (size := 1) (wb.alloc (.cells #[.int .i64 p, .int .i64 ((q : Int) + 1)] 3)) #[.slice (some ⟨wb.heap.size, 0, none⟩) 2 2] 1 (by simp) (by unfold maxLen; omega) (by simp)
    simpa [FreshV] using h
  · match j, hu, hx with
    | 0, hu, hx =>
      simp at hu hx
      subst hu hx
      exact (fresh_lit wb (pairOf (p, q)) #[.int .i64 p, .int .i64 ((q : Int) + 1)] wb.heap.size rfl (Nat.le_refl _) (by simp [pairOf])).ext (Ext.alloc1 _ _)
theorem BlkB.start {p q : Nat} (h : p < 5 ∧ q < 6) : BlkB ([(p, q)], []) :=
  ⟨by simp, by simp, fun z hz => by
    obtain rfl : z = (p, q) := by simpa using hz
    exact h, fun z hz => by cases hz⟩

/-- append(s, x), s of lists and of the call's own: and where the new slice lies. -/
theorem wpList_pushVAt {ops : Array Oper} {rest : List Oper} {o : Oper} {a : Act} {Q : Exit → Act → World → Prop} {w : World} (hgd : o.guard = none) (s x : Operand)
    (ho : o.op = .call { callee := .builtin .append, args := #[s, x], argTypes := #[26, 26] })
    (B : Nat) (v : Value) (vs : List Value) (hs : a.eval s = v) (hf : FreshV B w v vs) (u : Value) (ad : Addr) (c : Nat) (hx : a.eval x = .slice (some ad) 1 c)
    (hc : w.cell? ad = some u) (h1 : u.oneCell' = true) (hl : vs.length ≤ 1048576) (hB : B ≤ w.heap.size)
    (h : ∀ v' w', FreshV B w' v' (vs ++ [u]) → w.grownBy w' v.ownBlock → Kept B w w' → (v'.ownBlock = v.ownBlock ∨ v'.ownBlock = some w.heap.size) → wpList Try.prog ops Q rest (a.put o.dst v') w') : wpList Try.prog ops Q (o :: rest) a w := by
  obtain ⟨i0, hi, hz0, hz1, hz2⟩ := info_parts Try.infoInts
  refine wpList_append_own_at _ hgd s x 26 ho B 49 i0 (.slice none 0 0) 1 24 Try.underlying26 hi hz0 hz1 hz2 rfl (by decide) v vs.length _ hs hf ad 1 c [u] hx rfl ?_ ?_ ?_ ?_ hB ?_
  · intro j z hj
    match j, hj with
    | 0, hj => simp at hj; subst hj; simpa [Addr.add] using hc
  · intro z hz; simp at hz; subst hz; exact h1
  · unfold maxLen; omega
  · omega
  · intro v' w' ho' hg _ hloc
    exact h v' w' (by unfold FreshV; simpa using ho') hg (fun q hq hqB => Below.grown hq hg hq.size (fun b hb => Nat.le_trans hqB (World.ownsRow.lt hf b hb).1)) hloc
end Go.Proofs.Ytkhdgmgacfhcgaa
