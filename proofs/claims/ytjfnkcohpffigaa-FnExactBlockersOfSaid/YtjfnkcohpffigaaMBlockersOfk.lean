/- Texts of this proof, part k: words, plain facts, contracts. -/
import Derived.Test.YtjfnkcohpffigaaMBlockersOfb
import Derived.Test.YtjfnkcohpffigaaShelf
import Derived.Test.YtjfnkcohpffigaaMBlockersOfa
import Derived.Test.YtjfnkcohpffigaaMBlockersOfj
import Derived.Shelf.SlSortCmp.WholeK
import Derived.Shelf.SlSortCmp.NoneTotal
import Derived.Test.YtjfnkcohpffigaaMBlockersOfg

namespace Go.Proofs.Ytjfnkcohpffigaa
open Go.RowKit Go.Sort Go.Shelf
set_option linter.unusedVariables false

section
variable {α : Type} [Inhabited α] (enc : α → Value)

theorem holds_of_own {w : World} {B g n cap : Nat} {e : TypeId} {d : List α} (h : w.ownsRow B e 1 (.slice (some ⟨g, 0, none⟩) n cap) n (d.map enc)) (hn : d.length = n) : Holds enc w g 0 d.toArray := by
  subst hn
  intro j hj
  have hj' : j < d.length := by simpa using hj
  have hc := World.ownsRow.cellAt h j (by omega)
  rcases h.2 with ⟨hv, _⟩ | ⟨g', cap', cur, hv, _, hb, _⟩
  · cases hv
  · cases hv
    refine ⟨?_, by simp [World.frozen?, hb]⟩
    rw [Nat.zero_add, hc, List.getElem?_map, List.getElem?_eq_getElem hj']
    simp [hj']

theorem heap_put {w : World} {g n : Nat} {os : Array Obj} {cur : Array Value} {e : TypeId} {fr : Nat × Nat} (d : Array α) (hb : w.heap[g]? = some (.cells cur e fr)) :
    (grow (putRow enc (Sort.ahead w n) g 0 d) os).heap[g]? = some (.cells (putCells enc 0 d cur) e fr) := by
  have hg : g < w.heap.size := (Array.getElem?_eq_some_iff.1 hb).1
  rw [heap_grow_old _ _ (by simpa using hg)]
  simp [putRow, mapBlock, Sort.ahead, Array.getElem?_modify, hb, onCells]

theorem grown_put {w : World} {g n : Nat} {os : Array Obj} (d : Array α) : w.grownBy (grow (putRow enc (Sort.ahead w n) g 0 d) os) (some g) := by
  refine ⟨rfl, rfl, rfl, by simp, fun k hk hne => ?_⟩
  rw [heap_grow_old _ _ (by simpa using hk)]
  have : g ≠ k := fun e => hne (by rw [e])
  simp [putRow, mapBlock, Sort.ahead, Array.getElem?_modify, this]

theorem take_put (cur : Array Value) (ts : List α) (h : ts.length ≤ cur.size) : (putCells enc 0 ts.toArray cur).toList.take ts.length = ts.map enc := by
  apply List.ext_getElem?
  intro j
  by_cases hj : j < ts.length
  · rw [List.getElem?_take_of_lt hj, Array.getElem?_toList]
    simp [putCells, hj, show j < cur.size by omega]
  · rw [List.getElem?_take_eq_none (by omega), List.getElem?_eq_none (by simp; omega)]

/-- Behind the sort the same slice owns what was put. -/
theorem own_put {w : World} {B g cap n m : Nat} {e : TypeId} {os : Array Obj} {xs : List Value} {ts : List α} (h : w.ownsRow B e 1 (.slice (some ⟨g, 0, none⟩) n cap) n xs) (hl : ts.length = n) :
    (grow (putRow enc (Sort.ahead w m) g 0 ts.toArray) os).ownsRow B e 1 (.slice (some ⟨g, 0, none⟩) n cap) n (ts.map enc) := by
  rcases h.2 with ⟨hv, _⟩ | ⟨g', cap', cur, hv, hbase, hb, h1, h2, h3, _⟩
  · cases hv
  · cases hv
    refine ⟨by simp [hl], .inr ⟨g, cap, _, rfl, hbase, heap_put enc ts.toArray hb, h1, h2, by simp [putCells, h3], ?_⟩⟩
    rw [Nat.mul_one, ← hl]
    exact take_put enc cur ts (by omega)
end

/-- What a sort of integers leaves. -/
def sortI (l : List Int) : List Int := l.mergeSort fun x y => decide (x ≤ y)
end Go.Proofs.Ytjfnkcohpffigaa

namespace Go.Proofs.Ytjfnkcohpffigaa
open Go.RowKit Go.Sort Go.Shelf
set_option linter.unusedVariables false

theorem cmpP_lt (x y : Nat × Nat) : cmpP x y < 0 ↔ lexL x y := by
  unfold cmpP cmpI lexL
  by_cases h1 : (x.1 : Int) < y.1
  · simp [h1]; omega
  · by_cases h2 : (y.1 : Int) < x.1
    · simp [h1, h2]; omega
    · have e : x.1 = y.1 := by omega
      by_cases h3 : (x.2 : Int) + 1 < (y.2 : Int) + 1
      · simp [h3, e]; omega
      · by_cases h4 : (y.2 : Int) + 1 < (x.2 : Int) + 1
        · simp [h3, h4, e]; omega
        · simp [h3, h4, e]; omega
theorem cmpP_swo : SWO (Go.Proofs.ltOf cmpP) := by
  refine ⟨fun x => ?_, fun x y z h k => ?_, fun x y z h k => ?_⟩ <;> unfold Go.Proofs.ltOf at *
  · rw [decide_eq_false_iff_not, cmpP_lt]; unfold lexL; omega
  · rw [decide_eq_true_iff, cmpP_lt] at *; unfold lexL at *; omega
  · rw [decide_eq_false_iff_not, cmpP_lt] at *; unfold lexL at *; omega

theorem flatK_flat (L : List (Nat × Nat)) : (flatK cellsI 2 L.toArray).toList = flatI L := by
  apply List.ext_getElem?
  intro t
  have hs : (flatK cellsI 2 L.toArray).size = L.length * 2 := by simp
  by_cases ht : t < L.length * 2
  · have hj : t / 2 < L.length := by omega
    have hg := get_flatK cellsI 2 L.toArray t (by simpa using ht)
    rw [Array.getElem?_toList]
    rw [Array.getElem?_eq_getElem (by omega)]
    rw [getElem!_pos _ t (by omega)] at hg
    rw [hg]
    obtain ⟨f1, f2⟩ := flatI_at hj
    have e : L.toArray[t / 2]! = L[t / 2] := by simp [hj]
    rw [e]
    rcases Nat.mod_two_eq_zero_or_one t with h | h
    · rw [h]
      have et : t = t / 2 * 2 := by omega
      have e2 : (flatI L)[t]? = some (.int .i64 (L[t / 2].1 : Int)) := by
        have := f1
        rwa [← et] at this
      rw [e2]; rfl
    · rw [h]
      have et : t = t / 2 * 2 + 1 := by omega
      have e2 : (flatI L)[t]? = some (.int .i64 ((L[t / 2].2 : Int) + 1)) := by
        have := f2
        rwa [← et] at this
      rw [e2]; rfl
  · rw [List.getElem?_eq_none (by rw [Array.length_toList]; omega), List.getElem?_eq_none (by rw [flatI_len]; omega)]

/-- Behind the sort the same slice owns what was put, at elements of two cells. -/
theorem own_put2 {w : World} {B g cap n m : Nat} {e : TypeId} {os : Array Obj} {xs ts : List Value} (h : w.ownsRow B e 2 (.slice (some ⟨g, 0, none⟩) n cap) n xs) (hl : ts.length = n * 2) :
    (grow (putRow id (Sort.ahead w m) g 0 ts.toArray) os).ownsRow B e 2 (.slice (some ⟨g, 0, none⟩) n cap) n ts := by
  rcases h.2 with ⟨hv, _⟩ | ⟨g', cap', cur, hv, hbase, hb, h1, h2, h3, _⟩
  · cases hv
  · cases hv
    refine ⟨hl, .inr ⟨g, cap, _, rfl, hbase, heap_put id ts.toArray hb, h1, h2, by simp [putCells, h3], ?_⟩⟩
    have := take_put id cur ts (by omega)
    rw [List.map_id] at this
    rw [← hl]
    exact this

theorem holdsK_of {w : World} {B g cap : Nat} {L : List (Nat × Nat)} (h : FreshIn B w (.slice (some ⟨g, 0, none⟩) L.length cap) L) : HoldsK cellsI 2 w g 0 L.toArray := by
  intro j hj
  have hj' : j < L.length * 2 := by simpa using hj
  have hc := World.ownsRow.cellAt h j hj'
  rcases h.2 with ⟨hv, _⟩ | ⟨g', cap', cur, hv, _, hb, _⟩
  · cases hv
  · cases hv
    refine ⟨?_, by simp [World.frozen?, hb]⟩
    rw [Nat.zero_add, hc, ← flatK_flat, Array.getElem?_toList, Array.getElem?_eq_getElem (by simpa using hj), getElem!_pos _ j (by simpa using hj)]
    rfl

/-- The same instances, in order. -/
def SortedI (B : Nat) (v : Value) (L : List (Nat × Nat)) (w : World) (e : Ending) (w' : World) : Prop :=
  (∃ r, e = .returned r) ∧ ∃ L', FreshIn B w' v L' ∧ L'.Perm L ∧ L'.Pairwise lexL ∧ w.grownBy w' v.ownBlock

theorem sortInst_any (B : Nat) (v : Value) (L : List (Nat × Nat)) (w : World) (hf : FreshIn B w v L) (hnd : L.Nodup) (hlen : L.length ≤ 1048576) :
    Calls Try.prog 83 #[v, .func (.func 84) #[] #[]] w (SortedI B v L w) := by
  by_cases h0 : L = []
  · subst h0
    obtain ⟨ao, cap, hv, _⟩ := hf.at
    have hv' : v = .slice ao 0 cap := hv
    subst hv'
    refine (AnyF.slices_SortFunc_none Try.lSortI ao cap _ w).mono ?_
    rintro e w' ⟨rfl, rfl⟩
    exact ⟨⟨_, rfl⟩, [], hf, List.Perm.refl _, List.Pairwise.nil, ⟨rfl, rfl, rfl, Nat.le_refl _, fun _ _ _ => rfl⟩⟩
  · have hpos : 0 < L.length := List.length_pos_iff.2 h0
    have hf0 : w.ownsRow B 80 2 v L.length (flatI L) := hf
    obtain ⟨g, cap, rfl⟩ : ∃ g cap, v = .slice (some ⟨g, 0, none⟩) L.length cap := by
      rcases hf0.2 with ⟨_, h⟩ | ⟨g, cap, _, hv, _⟩
      · omega
      · exact ⟨g, cap, hv⟩
    have hgw : g < w.heap.size := (World.ownsRow.lt hf0 g rfl).2
    have hsz : L.toArray.size = L.length := by simp
    have hcmp : Go.Proofs.CmpLays Try.prog 84 #[] cellsI 2 cmpP g 0 L.toArray.size w := by
      intro m os dk _ x y
      refine (instCmp_any x y _).mono ?_
      rintro e w' ⟨rfl, q, os', rfl⟩
      exact ⟨rfl, q, os', rfl⟩
    have hc := AnyQ.slices_SortFunc Try.lSortI 2 (fun w => by kernel_rfl) (fun w => by kernel_rfl) cellsI (fun _ => rfl) (fun x v hv => by simp [cellsI] at hv; rcases hv with rfl | rfl <;> rfl) cmpP cmpP_swo 84 #[] g 0 cap L.toArray w (enters_of Try.func84 (by kernel_rfl) rfl) hcmp (holdsK_of hf) hgw (by rw [hsz]; omega)
    rw [hsz] at hc
    refine hc.mono ?_
    rintro e w' ⟨rfl, d', n, os, hp, hs, rfl⟩
    have hds : d'.size = L.length := by rw [hp.1, hsz]
    have hperm : d'.toList.Perm L := by
      have h := hp.2.2
      have e1 : d'.extract 0 L.length = d' := by rw [← hds]; simp
      have e2 : L.toArray.extract 0 L.length = L.toArray := by
        have := Array.extract_size (xs := L.toArray)
        rwa [hsz] at this
      rw [e1, e2] at h
      simpa using h
    have hndd : d'.toList.Nodup := hperm.nodup_iff.2 hnd
    refine ⟨⟨_, rfl⟩, d'.toList, ?_, hperm, ?_, ?_⟩
    · have hl : (flatI d'.toList).length = L.length * 2 := by rw [flatI_len, Array.length_toList, hds]
      have := own_put2 (m := n) (os := os) hf0 hl
      unfold FreshIn
      have hdl : d'.toList.length = L.length := by simpa using hds
      rw [hdl]
      have e : flatK cellsI 2 d' = (flatI d'.toList).toArray := by rw [← flatK_flat]
      unfold sortWorldK putRowK
      rw [e]
      exact this
    · rw [List.pairwise_iff_getElem]
      intro i j hi hj hij
      rw [Array.length_toList] at hi hj
      have h := hs i j (Nat.zero_le _) hij (by omega)
      unfold Go.Proofs.ltOf at h
      rw [decide_eq_false_iff_not, cmpP_lt, getElem!_pos _ j hj, getElem!_pos _ i hi] at h
      have hne : d'[i] ≠ d'[j] := by
        have := List.pairwise_iff_getElem.1 hndd i j (by simpa using hi) (by simpa using hj) hij
        simpa using this
      have hne' : ¬ (d'[i].1 = d'[j].1 ∧ d'[i].2 = d'[j].2) := fun e => hne (Prod.ext e.1 e.2)
      simp only [Array.getElem_toList]
      unfold lexL at h ⊢
      omega
    · unfold sortWorldK putRowK
      exact grown_put id _

end Go.Proofs.Ytjfnkcohpffigaa

namespace Go.Proofs.Ytjfnkcohpffigaa
open Go.RowKit Go.Maps
set_option linter.unusedVariables false

/-- The instances that have come, each once. -/
structure Came (S : Nat → Nat → Bool) (left : Lit → Bool) (L : List (Nat × Nat)) : Prop where
  nodup : L.Nodup
  mem : ∀ x : Nat × Nat, x ∈ L ↔ (S x.1 x.2 = true ∧ left (kl (x.1 : Int) ((x.2 : Int) + 1)) = false)
theorem Came.start {S : Nat → Nat → Bool} {D : DataW Value} {f : Nat → Nat → Value} (h : MapOf D S f) : Came S (Maps.has D) [] :=
  ⟨List.nodup_nil, fun x => by
    constructor
    · intro hx; cases hx
    · rintro ⟨hs, hl⟩
      rw [h.has x.1 x.2 hs] at hl
      cases hl⟩
theorem Came.step {S : Nat → Nat → Bool} {D : DataW Value} {f : Nat → Nat → Value} (h : MapOf D S f) {left : Lit → Bool} {L : List (Nat × Nat)} (hc : Came S left L) {p q : Nat} (hs : S p q = true) (hl : left (kl (p : Int) ((q : Int) + 1)) = true) :
    Came S (fun z => left z && !z.sameKey (kl (p : Int) ((q : Int) + 1))) (L ++ [(p, q)]) := by
  have hne : (p, q) ∉ L := fun hm => by
    have := ((hc.mem _).1 hm).2
    rw [hl] at this; cases this
  have hk := h.low p q hs
  have hself : (kl (p : Int) ((q : Int) + 1)).sameKey (kl (p : Int) ((q : Int) + 1)) = true := WideAt.sameKey_self (instKeyed.key (keyOf_inst (wf_small (by omega) (by omega)) (wf_small (by omega) (by omega))))
  refine ⟨?_, fun x => ?_⟩
  · rw [List.nodup_append]
    refine ⟨hc.nodup, by simp, fun a ha b hb e => ?_⟩
    simp at hb
    subst hb
    subst e
    exact hne ha
  · rw [List.mem_append, List.mem_singleton, hc.mem]
    by_cases e : x = (p, q)
    · subst e
      simp [hs, hself]
    · constructor
      · rintro (⟨h1, h2⟩ | h1)
        · exact ⟨h1, by rw [h2]; rfl⟩
        · exact absurd h1 e
      · rintro ⟨h1, h2⟩
        have hx := h.low x.1 x.2 h1
        have hn := Maps.sameKey_ne (kl_ne hx hk (fun e' => e (Prod.ext e'.1 e'.2)))
        rw [hn] at h2
        exact .inl ⟨h1, by simpa using h2⟩

/-- The instances of S in order come back, in new memory. -/
def NewInsts (S : Nat → Nat → Bool) (w : World) (e : Ending) (w' : World) : Prop :=
  ∃ v L, e = .returned v ∧ FreshIn w.heap.size w' v L ∧ L.Pairwise lexL ∧ (∀ x : Nat × Nat, x ∈ L ↔ S x.1 x.2 = true) ∧ Ext w w'

set_option maxHeartbeats 4000000 in
set_option maxRecDepth 100000 in
theorem inOrderRow_any (B n0 : Nat) (D : DataW Value) (S : Nat → Nat → Bool) (R_ : Nat → Nat → RowD) (U : Nat → Nat → Value) (w : World) (hm : RowMap w B n0 D) (hd : MapOf D S (fun p q => rowV (R_ p q) (U p q))) (hn : n0 ≤ 1000) :
    Calls Try.prog 36 #[.map (some B)] w (NewInsts S w) := by
  have HM := Lib.hid hm
  have HD := Lib.hid hd
  have HB := Lib.hid hm.lt
  have HN0 := Lib.hid hn
  clear hm hd hn
  go_enter Try.func36, Try.ntmps36
  go_wp2_with (first | (at_range; refine wpList_range_own _ rfl _ 70 rfl 80 69 instKeyed Try.underlying70 asIs B n0 D rfl HM.out ?_; intro w1 hrg1 hg1 hs1) | go_in)
  go_frame
  have X1 := Lib.hid (ext_of_grown hg1)
  have R1 := Lib.hid hrg1
  obtain ⟨r, hr⟩ : ∃ r, r = w.heap.size := ⟨_, rfl⟩
  rw [← hr] at R1 ⊢
  have HR := Lib.hid hr
  have HS1 : Hid (r + 1 ≤ w1.heap.size) := Lib.hid (by omega)
  clear hrg1 hg1 hs1 HM hr
  go_loopw [3, 4] (fun s _ wr => ∃ (left : Lit → Bool) (cnt : Nat) (L : List (Nat × Nat)), Hid (RowRange wr B r n0 D left cnt) ∧ Hid (Came S left L) ∧ Hid (FreshIn (r + 1) wr s L) ∧ Hid (L.length + cnt ≤ n0) ∧ Hid (Ext w wr) ∧ Hid (r + 1 ≤ wr.heap.size)) (fun _ _ wr => wr.rangeLeft B r)
  case atStart => exact ⟨_, _, [], R1, Lib.hid (Came.start HD.out), Lib.hid (FreshIn.nil _ _), Lib.hid (by have := R1.out.owns.size_le; simpa using this), X1, HS1⟩
  case round =>
    clear R1 X1 HS1
    obtain ⟨left, cnt, L, R, C, F, N, X, SZ⟩ := hrel
    have hF := F.out
    have hlt0 : ∀ k, u3.ownBlock = some k → r + 1 ≤ k := fun k hk => (World.ownsRow.lt hF k hk).1
    have HLT0 := Lib.hid hlt0
    clear hF hlt0
    go_wp2_with (first | (at_next; refine wpList_next_inst _ rfl _ rfl B r n0 D left cnt _ _ rfl R.out HD.out ?_ ?_) | go_in)
    · intro hl
      clear R
      go_wp2_with fail
      refine (sortInst_any _ _ L _ F.out C.out.nodup (by have := N.out; have := HN0.out; omega)).mono ?_
      rintro e w2 ⟨⟨rv, rfl⟩, L', f', hp, hlex, hg⟩
      have hmem : ∀ x : Nat × Nat, x ∈ L' ↔ S x.1 x.2 = true := fun x => by
        rw [hp.mem_iff, C.out.mem, hl]
        simp
      have HM := Lib.hid hmem
      have HP := Lib.hid hlex
      have hx2 : Ext w w2 := Below.grown X.out hg X.out.size (fun k hk => by have := HLT0.out k hk; have := HR.out; omega)
      have X2 := Lib.hid hx2
      have hf2 : FreshIn w.heap.size w2 u3 L' := ownsRow_more f' (by have := HR.out; omega)
      have F2 := Lib.hid hf2
      clear hp hlex hg hmem hx2 f' hf2 C F N X hl
      go_wp2
      go_ret
      exact ⟨_, L', rfl, F2.out, HP.out, HM.out, X2.out⟩
    · intro p q w3 cnt3 hS hlk hrg3 hlt hg3 hs3 hen
      have C3 := Lib.hid (C.out.step HD.out hS hlk)
      have N3 : Hid ((L ++ [(p, q)]).length + cnt3 ≤ n0) := Lib.hid (by have := N.out; simp; omega)
      have X3 : Hid (Ext w w3) := Lib.hid (X.out.turned hg3 (by have := HR.out; omega))
      have F3 : Hid (FreshIn (r + 1) w3 u3 L) := Lib.hid (World.ownsRow.kept F.out hg3 (by
        cases hb : u3.ownBlock with
        | none => exact .inl rfl
        | some k => exact .inr (fun e => by cases e; have := HLT0.out _ hb; omega)))
      have R3 := Lib.hid hrg3
      have SZ3 : Hid (r + 1 ≤ w3.heap.size) := Lib.hid (by have := SZ.out; omega)
      have HRO := Lib.hid R.out
      have HLT := Lib.hid hlt
      have HL : Hid (L.length ≤ 1048576) := Lib.hid (by have := N.out; have := HN0.out; omega)
      obtain ⟨rv, hrv⟩ : ∃ rv, rv = rowV (R_ p q) (U p q) := ⟨_, rfl⟩
      simp only [← hrv] at hen ⊢
      clear hrg3 hg3 hs3 hlk hS R C N X F SZ hlt hrv
      go_wp2_with (first | (at_builtin; refine wpList_pushI rfl _ _ rfl (r + 1) _ L (p, q) rfl (F3.out.ext (Ext.alloc2 _ _ _)) (w3.heap.size + 1) 1 rfl (by go_simp) (by go_simp) HL.out (Nat.le_trans SZ3.out (Ext.alloc2 _ _ _).size) ?_; intro v' w4 f4 hg4 hk4) | go_in)
      have F4 := Lib.hid f4
      have X4 := Lib.hid (hk4 w (X3.out.trans (Ext.alloc2 _ _ _)) (by have := HR.out; omega))
      have R4 : Hid (RowRange w4 B r n0 D (fun z => left z && !z.sameKey (kl (p : Int) ((q : Int) + 1))) cnt3) := Lib.hid ((R3.out.ext (Ext.alloc2 _ _ _)).kept hg4 (fun e => by have := HLT0.out _ e.symm; have := HB.out; have := HR.out; omega) (fun e => by have := HLT0.out _ e.symm; omega))
      have SZ4 : Hid (r + 1 ≤ w4.heap.size) := Lib.hid (Nat.le_trans (Nat.le_trans SZ3.out (Ext.alloc2 _ _ _).size) hg4.size)
      clear f4 hg4 hk4 F3 X3 R3 SZ3
      go_wp2
      go_roundw
      case rel => exact ⟨_, _, _, R4, C3, F4, N3, X4, SZ4⟩
      case measure => rw [R4.out.left_eq, HRO.out.left_eq]; exact HLT.out

end Go.Proofs.Ytjfnkcohpffigaa

namespace Go.Proofs.Ytjfnkcohpffigaa
open Go.RowKit Go.Maps
set_option linter.unusedVariables false

/-- Two lists of lists come back, and a Bool: each in new memory, the second behind the first. -/
def ThreeSS (L M : List (List Int)) (b : Bool) (w : World) (e : Ending) (w' : World) : Prop :=
  ∃ v u w1, e = .returned (.tuple #[v, u, .bool b]) ∧ FreshSS w.heap.size w1 v L ∧ Ext w w1 ∧ FreshSS w1.heap.size w' u M ∧ Ext w1 w'

/-- Lists in the same order with the same members are one. -/
theorem lex_unique {L M : List (Nat × Nat)} (hL : L.Pairwise lexL) (hM : M.Pairwise lexL) (h : ∀ x, x ∈ L ↔ x ∈ M) : L = M := by
  induction L generalizing M with
  | nil =>
    cases M with
    | nil => rfl
    | cons y t => exact absurd ((h y).2 (by simp)) (by simp)
  | cons x s ih =>
    cases M with
    | nil => exact absurd ((h x).1 (by simp)) (by simp)
    | cons y t =>
      rw [List.pairwise_cons] at hL hM
      have exy : x = y := by
        rcases List.mem_cons.1 ((h x).1 (by simp)) with e | e
        · exact e
        · rcases List.mem_cons.1 ((h y).2 (by simp)) with e' | e'
          · exact e'.symm
          · have h1 := hM.1 x e
            have h2 := hL.1 y e'
            unfold lexL at h1 h2
            omega
      subst exy
      congr 1
      refine ih hL.2 hM.2 fun z => ?_
      constructor
      · intro hz
        rcases List.mem_cons.1 ((h z).1 (by simp [hz])) with e | e
        · subst e
          have := hL.1 _ hz
          unfold lexL at this
          omega
        · exact e
      · intro hz
        rcases List.mem_cons.1 ((h z).2 (by simp [hz])) with e | e
        · subst e
          have := hM.1 _ hz
          unfold lexL at this
          omega
        · exact e
theorem insts_of {T : List (List RowD)} {L : List (Nat × Nat)} (hL : L.Pairwise lexL) (h : ∀ x : Nat × Nat, x ∈ L ↔ instCom T x.1 x.2 = true) : L = insts T :=
  lex_unique hL (insts_lex T) (fun x => by rw [h, mem_insts])
theorem insts_short {n : Int} {T : List (List RowD)} (hg : goodTab n T = true) : (insts T).length ≤ 30 := by
  have h := goodTab_both hg
  have h2 := allTo_len h.2 T.length (Nat.le_refl _)
  rw [allTo_insts, List.length_map] at h2
  have : (insts T).length ≤ 6 * T.length := h2
  omega

def pointsR (n : Int) (T : List (List RowD)) : List (List Int) := if goodTab n T then (insts T).map pairOf else []
def graphR (n : Int) (T : List (List RowD)) : List (List Int) := if goodTab n T then graphP n T (insts T) else []

end Go.Proofs.Ytjfnkcohpffigaa

namespace Go.Proofs.Ytjfnkcohpffigaa
open Go.RowKit Go.Maps
set_option linter.unusedVariables false

/-- From x0 one comes to z: over settled instances. -/
def Led (n : Int) (T : List (List RowD)) (x0 z : Nat × Nat) : Prop := ∀ C : Nat × Nat → Prop, C x0 → (∀ y, C y → instCom T y.1 y.2 = true → ∀ z ∈ hungL (rowOf n T y.1 y.2), C z) → C z
def nextL (n : Int) (T : List (List RowD)) (y : Nat × Nat) : List (Nat × Nat) := if instCom T y.1 y.2 then hungL (rowOf n T y.1 y.2) else []
/-- What is met (M), and of it what waits (L). -/
structure Com (n : Int) (T : List (List RowD)) (x0 : Nat × Nat) (M L : List (Nat × Nat)) : Prop where
  first : x0 ∈ M
  led : ∀ z ∈ M, Led n T x0 z
  done : ∀ y ∈ M, y ∉ L → ∀ z ∈ nextL n T y, z ∈ M
  sub : ∀ y ∈ L, y ∈ M
  nod : M.Nodup
  bnd : ∀ z ∈ M, z.1 < 5 ∧ z.2 < 6
/-- .. y being looked through, its first j. -/
structure ComI (n : Int) (T : List (List RowD)) (x0 y : Nat × Nat) (j : Nat) (M L : List (Nat × Nat)) : Prop where
  first : x0 ∈ M
  led : ∀ z ∈ M, Led n T x0 z
  done : ∀ y' ∈ M, y' ∉ L → y' ≠ y → ∀ z ∈ nextL n T y', z ∈ M
  part : ∀ z ∈ (nextL n T y).take j, z ∈ M
  sub : ∀ y ∈ L, y ∈ M
  nod : M.Nodup
  bnd : ∀ z ∈ M, z.1 < 5 ∧ z.2 < 6
  here : y ∈ M
theorem Com.start {n : Int} {T : List (List RowD)} {x0 : Nat × Nat} (h : x0.1 < 5 ∧ x0.2 < 6) : Com n T x0 [x0] [x0] :=
  ⟨by simp, fun z hz => by
    obtain rfl : z = x0 := by simpa using hz
    exact fun C h0 _ => h0, fun y hy hn => absurd hy hn, fun y hy => hy, by simp, fun z hz => by
    obtain rfl : z = x0 := by simpa using hz
    exact h⟩
theorem Com.pop {n : Int} {T : List (List RowD)} {x0 y : Nat × Nat} {M L : List (Nat × Nat)} (h : Com n T x0 M (L ++ [y])) : ComI n T x0 y 0 M L :=
  ⟨h.first, h.led, fun y' hy hn hne => h.done y' hy (by simp [hn, hne]), fun z hz => by simp at hz, fun z hz => h.sub z (by simp [hz]), h.nod, h.bnd, h.sub y (by simp)⟩
theorem ComI.old {n : Int} {T : List (List RowD)} {x0 y z : Nat × Nat} {j : Nat} {M L : List (Nat × Nat)} (h : ComI n T x0 y j M L) (hz : (nextL n T y)[j]? = some z) (hm : z ∈ M) : ComI n T x0 y (j + 1) M L :=
  ⟨h.first, h.led, h.done, fun z' hz' => by
    rw [List.take_add_one, hz] at hz'
    rcases List.mem_append.1 hz' with hz' | hz'
    · exact h.part z' hz'
    · obtain rfl : z' = z := by simpa using hz'
      exact hm, h.sub, h.nod, h.bnd, h.here⟩
theorem ComI.new {n : Int} {T : List (List RowD)} {x0 y z : Nat × Nat} {j : Nat} {M L : List (Nat × Nat)} (h : ComI n T x0 y j M L) (hz : (nextL n T y)[j]? = some z) (hm : z ∉ M) (hb : z.1 < 5 ∧ z.2 < 6) : ComI n T x0 y (j + 1) (M ++ [z]) (L ++ [z]) := by
  have hzl : Led n T x0 z := by
    intro C h0 hC
    have hyC := h.led y h.here C h0 hC
    have hmem := List.mem_of_getElem? hz
    unfold nextL at hmem
    split at hmem
    · rename_i hc
      exact hC y hyC hc z hmem
    · cases hmem
  refine ⟨by simp [h.first], fun z' hz' => ?_, fun y' hy hn hne z' hz' => ?_, fun z' hz' => ?_, fun z' hz' => ?_, ?_, fun z' hz' => ?_, by simp [h.here]⟩
  · rcases List.mem_append.1 hz' with hz' | hz'
    · exact h.led z' hz'
    · obtain rfl : z' = z := by simpa using hz'
      exact hzl
  · simp only [List.mem_append, List.mem_singleton, not_or] at hn
    rcases List.mem_append.1 hy with hy | hy
    · exact List.mem_append_left _ (h.done y' hy hn.1 hne z' hz')
    · exact absurd (by simpa using hy) hn.2
  · rw [List.take_add_one, hz] at hz'
    rcases List.mem_append.1 hz' with hz' | hz'
    · exact List.mem_append_left _ (h.part z' hz')
    · exact List.mem_append_right _ (by simpa using hz')
  · rcases List.mem_append.1 hz' with hz' | hz'
    · exact List.mem_append_left _ (h.sub z' hz')
    · exact List.mem_append_right _ hz'
  · refine List.nodup_append.2 ⟨h.nod, by simp, fun a ha b hb' e => ?_⟩
    obtain rfl : b = z := by simpa using hb'
    subst e
    exact hm ha
  · rcases List.mem_append.1 hz' with hz' | hz'
    · exact h.bnd z' hz'
    · obtain rfl : z' = z := by simpa using hz'
      exact hb
theorem ComI.close {n : Int} {T : List (List RowD)} {x0 y : Nat × Nat} {j : Nat} {M L : List (Nat × Nat)} (h : ComI n T x0 y j M L) (hj : (nextL n T y).length ≤ j) : Com n T x0 M L :=
  ⟨h.first, h.led, fun y' hy hn z hz => by
    by_cases e : y' = y
    · subst e
      exact h.part z (by rw [List.take_of_length_le hj]; exact hz)
    · exact h.done y' hy hn e z hz, h.sub, h.nod, h.bnd⟩
theorem Com.all {n : Int} {T : List (List RowD)} {x0 : Nat × Nat} {M : List (Nat × Nat)} (h : Com n T x0 M []) (z : Nat × Nat) : z ∈ M ↔ Led n T x0 z := by
  refine ⟨h.led z, fun hl => hl (fun z => z ∈ M) h.first (fun y hy hc z hz => h.done y hy (by simp) z (by unfold nextL; rw [if_pos hc]; exact hz))⟩
theorem Com.few {n : Int} {T : List (List RowD)} {x0 : Nat × Nat} {M L : List (Nat × Nat)} (h : Com n T x0 M L) : M.length ≤ 30 := few_of h.nod h.bnd
theorem ComI.few {n : Int} {T : List (List RowD)} {x0 y : Nat × Nat} {j : Nat} {M L : List (Nat × Nat)} (h : ComI n T x0 y j M L) : M.length ≤ 30 := few_of h.nod h.bnd
theorem nextL_in {n : Int} {T : List (List RowD)} (hg : goodTab n T = true) {y x : Nat × Nat} (hx : x ∈ nextL n T y) : x.1 < 5 ∧ x.2 < 6 := by
  unfold nextL at hx
  split at hx
  · rename_i hc
    have hy := (com_row hg hc).2.2.1
    rw [mem_hungL] at hx
    have h1 := rowOf_list hg hy y.2
    have h2 := dep_in hg hy y.2 x.1
    unfold depM at hx
    omega
  · cases hx

/-- All instances that a table may have. -/
def grid : List (Nat × Nat) := (List.range 5).flatMap fun p => (List.range 6).map fun q => (p, q)
theorem grid_lex : grid.Pairwise lexL := by decide
theorem mem_grid {z : Nat × Nat} : z ∈ grid ↔ z.1 < 5 ∧ z.2 < 6 := by
  unfold grid
  simp only [List.mem_flatMap, List.mem_range, List.mem_map]
  constructor
  · rintro ⟨p, hp, q, hq, rfl⟩
    exact ⟨hp, hq⟩
  · rintro ⟨h1, h2⟩
    exact ⟨z.1, h1, z.2, h2, rfl⟩
noncomputable def ledB (n : Int) (T : List (List RowD)) (x0 z : Nat × Nat) : Bool := @decide (Led n T x0 z) (Classical.propDecidable _)
theorem ledB_iff {n : Int} {T : List (List RowD)} {x0 z : Nat × Nat} : ledB n T x0 z = true ↔ Led n T x0 z := by
  unfold ledB
  exact @decide_eq_true_iff _ (Classical.propDecidable _)
/-- The blockers, rising. -/
noncomputable def blkL (n : Int) (T : List (List RowD)) (x0 : Nat × Nat) : List (Nat × Nat) := grid.filter fun z => ledB n T x0 z && !instCom T z.1 z.2
theorem blkL_of {n : Int} {T : List (List RowD)} {x0 : Nat × Nat} {L : List (Nat × Nat)} (hL : L.Pairwise lexL) (hb : ∀ z ∈ L, z.1 < 5 ∧ z.2 < 6) (h : ∀ z : Nat × Nat, z.1 < 5 ∧ z.2 < 6 → (z ∈ L ↔ (Led n T x0 z ∧ instCom T z.1 z.2 = false))) : L = blkL n T x0 :=
  lex_unique hL (grid_lex.filter _) (fun z => by
    unfold blkL
    rw [List.mem_filter, mem_grid]
    constructor
    · intro hz
      have h1 := hb z hz
      have h2 := (h z h1).1 hz
      exact ⟨h1, by rw [ledB_iff.2 h2.1, h2.2]; rfl⟩
    · rintro ⟨h1, h2⟩
      simp only [Bool.and_eq_true, Bool.not_eq_true'] at h2
      exact (h z h1).2 ⟨ledB_iff.1 h2.1, h2.2⟩)
theorem blkL_short (n : Int) (T : List (List RowD)) (x0 : Nat × Nat) : (blkL n T x0).length ≤ 30 := Nat.le_trans (List.length_filter_le _ _) (by decide)
/-- The model's blockers are these. -/
theorem BlkI.all {n : Int} {T : List (List RowD)} {x0 : Nat × Nat} {i : Nat} {s : List (Nat × Nat) × List (Nat × Nat)} (h : BlkI n T x0 i 0 s) (hi : s.1.length ≤ i) (hb : BlkB s) : s.2 = blkL n T x0 := by
  refine blkL_of h.sorted hb.in2 (fun z _ => ⟨fun hz => ⟨fun C h0 hC => (h.led C hC h0).2 z hz, h.not z hz⟩, fun ⟨hl, hn⟩ => ?_⟩)
  have hm := hl (fun z => z ∈ s.1 ∨ z ∈ s.2) (.inl h.first) (fun y hy hc z hz => by
    rcases hy with hy | hy
    · by_cases e : z = y
      · rw [e]; exact .inl hy
      · obtain ⟨k, hk⟩ := List.getElem?_of_mem hy
        have hlt := (List.getElem?_eq_some_iff.1 hk).1
        exact h.done k y (by omega) hk z (mem_depsL.2 ⟨hz, e⟩)
    · rw [h.not y hy] at hc; cases hc)
  rcases hm with hm | hm
  · rw [h.com z hm] at hn; cases hn
  · exact hm
end Go.Proofs.Ytjfnkcohpffigaa

namespace Go.Proofs.Ytjfnkcohpffigaa
open Go.RowKit Go.Maps Go.Sort Go.Shelf
set_option linter.unusedVariables false

set_option maxHeartbeats 2000000 in
set_option maxRecDepth 100000 in
theorem instCmpB_any (x y : Nat × Nat) (w : World) :
    Calls Try.prog 94 #[.agg (cellsI x).toArray, .agg (cellsI y).toArray] w (fun e w' => e = .returned (.int .i64 (cmpP x y)) ∧ Grows w w') := by
  unfold cellsI cmpP
  obtain ⟨p, q⟩ := x
  obtain ⟨p', q'⟩ := y
  obtain ⟨r, hr⟩ : ∃ r, r = if cmpI (p : Int) (p' : Int) = 0 then cmpI ((q : Int) + 1) ((q' : Int) + 1) else cmpI (p : Int) (p' : Int) := ⟨_, rfl⟩
  have cO : ∀ w0 : World, Calls Try.prog 85 #[.slice (some ⟨w0.heap.size, 0, none⟩) 2 2] (w0.alloc (.cells #[.int .i64 (cmpI (p : Int) (p' : Int)), .int .i64 (cmpI ((q : Int) + 1) ((q' : Int) + 1))] 3)).drew (IntSame r (w0.alloc (.cells #[.int .i64 (cmpI (p : Int) (p' : Int)), .int .i64 (cmpI ((q : Int) + 1) ((q' : Int) + 1))] 3)).drew) := fun w0 => by
    rw [hr]
    exact orHere w0 _ _
  have CO := Lib.hid cO
  show Calls _ _ _ _ (fun e w' => e = .returned (.int .i64 (if cmpI (p : Int) (p' : Int) = 0 then cmpI ((q : Int) + 1) ((q' : Int) + 1) else cmpI (p : Int) (p' : Int))) ∧ Grows w w')
  rw [← hr]
  clear hr cO
  obtain ⟨w0, hw0⟩ : ∃ w0, w0 = (w.alloc (.cells #[.int .i64 p, .int .i64 ((q : Int) + 1)] 80)).alloc (.cells #[.int .i64 p', .int .i64 ((q' : Int) + 1)] 80) := ⟨_, rfl⟩
  have g0 : Grows w w0 := by rw [hw0]; exact (Grows.refl w).alloc _ |>.alloc _
  have c0 : w0.cell? ⟨w.heap.size, 0, none⟩ = some (.int .i64 p) := by rw [hw0]; go_simp
  have c1 : w0.cell? ⟨w.heap.size, 1, none⟩ = some (.int .i64 ((q : Int) + 1)) := by rw [hw0]; go_simp
  have c2 : w0.cell? ⟨w.heap.size + 1, 0, none⟩ = some (.int .i64 p') := by rw [hw0]; go_simp
  have c3 : w0.cell? ⟨w.heap.size + 1, 1, none⟩ = some (.int .i64 ((q' : Int) + 1)) := by rw [hw0]; go_simp
  have ks : ∀ W, Grows w0 W → Grows w0 W ∧ W.cell? ⟨w.heap.size, 0, none⟩ = some (.int .i64 p) ∧ W.cell? ⟨w.heap.size, 1, none⟩ = some (.int .i64 ((q : Int) + 1)) ∧ W.cell? ⟨w.heap.size + 1, 0, none⟩ = some (.int .i64 p') ∧ W.cell? ⟨w.heap.size + 1, 1, none⟩ = some (.int .i64 ((q' : Int) + 1)) := fun W h => ⟨h, h.ext.cell c0, h.ext.cell c1, h.ext.cell c2, h.ext.cell c3⟩
  clear c0 c1 c2 c3
  subst hw0
  have KS := Lib.hid ks
  have G0 := Lib.hid g0
  clear ks g0
  go_enter Try.func94, Try.ntmps94
  go_wp2_with fail
  generalize ((w.alloc (.cells #[.int .i64 p, .int .i64 ((q : Int) + 1)] 80)).alloc (.cells #[.int .i64 p', .int .i64 ((q' : Int) + 1)] 80)) = w0 at KS G0 ⊢
  go_region_held3 (fun W => Grows w0 W ∧ W.cell? ⟨w.heap.size, 0, none⟩ = some (.int .i64 p) ∧ W.cell? ⟨w.heap.size, 1, none⟩ = some (.int .i64 ((q : Int) + 1)) ∧ W.cell? ⟨w.heap.size + 1, 0, none⟩ = some (.int .i64 p') ∧ W.cell? ⟨w.heap.size + 1, 1, none⟩ = some (.int .i64 ((q' : Int) + 1))) (first | (with_reducible exact KS.out _ (Grows.drew (Grows.refl _))) | (with_reducible exact KS.out _ (Grows.drew (Grows.alloc (Grows.refl _) _))) | (with_reducible exact KS.out _ (Grows.alloc (Grows.drew (Grows.refl _)) _)) | (trace_state; fail)) (first | (go_at_call 86; refine (compareInt_any _ _ _).mono ?_; rintro e W3 ⟨rfl, rfl⟩) | (go_at_call 85; refine (CO.out _).mono ?_; rintro e W3 ⟨rfl, rfl⟩))
  all_goals
    go_wp2
    go_ret
    exact ⟨rfl, G0.out.trans (Grows.drew (Grows.alloc (Grows.refl _) _))⟩


theorem sortInstB_any (B : Nat) (v : Value) (L : List (Nat × Nat)) (w : World) (hf : FreshIn B w v L) (hnd : L.Nodup) (hlen : L.length ≤ 1048576) :
    Calls Try.prog 83 #[v, .func (.func 94) #[] #[]] w (SortedI B v L w) := by
  by_cases h0 : L = []
  · subst h0
    obtain ⟨ao, cap, hv, _⟩ := hf.at
    have hv' : v = .slice ao 0 cap := hv
    subst hv'
    refine (AnyF.slices_SortFunc_none Try.lSortI ao cap _ w).mono ?_
    rintro e w' ⟨rfl, rfl⟩
    exact ⟨⟨_, rfl⟩, [], hf, List.Perm.refl _, List.Pairwise.nil, ⟨rfl, rfl, rfl, Nat.le_refl _, fun _ _ _ => rfl⟩⟩
  · have hpos : 0 < L.length := List.length_pos_iff.2 h0
    have hf0 : w.ownsRow B 80 2 v L.length (flatI L) := hf
    obtain ⟨g, cap, rfl⟩ : ∃ g cap, v = .slice (some ⟨g, 0, none⟩) L.length cap := by
      rcases hf0.2 with ⟨_, h⟩ | ⟨g, cap, _, hv, _⟩
      · omega
      · exact ⟨g, cap, hv⟩
    have hgw : g < w.heap.size := (World.ownsRow.lt hf0 g rfl).2
    have hsz : L.toArray.size = L.length := by simp
    have hcmp : Go.Proofs.CmpLays Try.prog 94 #[] cellsI 2 cmpP g 0 L.toArray.size w := by
      intro m os dk _ x y
      refine (instCmpB_any x y _).mono ?_
      rintro e w' ⟨rfl, q, os', rfl⟩
      exact ⟨rfl, q, os', rfl⟩
    have hc := AnyQ.slices_SortFunc Try.lSortI 2 (fun w => by kernel_rfl) (fun w => by kernel_rfl) cellsI (fun _ => rfl) (fun x v hv => by simp [cellsI] at hv; rcases hv with rfl | rfl <;> rfl) cmpP cmpP_swo 94 #[] g 0 cap L.toArray w (enters_of Try.func94 (by kernel_rfl) rfl) hcmp (holdsK_of hf) hgw (by rw [hsz]; omega)
    rw [hsz] at hc
    refine hc.mono ?_
    rintro e w' ⟨rfl, d', n, os, hp, hs, rfl⟩
    have hds : d'.size = L.length := by rw [hp.1, hsz]
    have hperm : d'.toList.Perm L := by
      have h := hp.2.2
      have e1 : d'.extract 0 L.length = d' := by rw [← hds]; simp
      have e2 : L.toArray.extract 0 L.length = L.toArray := by
        have := Array.extract_size (xs := L.toArray)
        rwa [hsz] at this
      rw [e1, e2] at h
      simpa using h
    have hndd : d'.toList.Nodup := hperm.nodup_iff.2 hnd
    refine ⟨⟨_, rfl⟩, d'.toList, ?_, hperm, ?_, ?_⟩
    · have hl : (flatI d'.toList).length = L.length * 2 := by rw [flatI_len, Array.length_toList, hds]
      have := own_put2 (m := n) (os := os) hf0 hl
      unfold FreshIn
      have hdl : d'.toList.length = L.length := by simpa using hds
      rw [hdl]
      have e : flatK cellsI 2 d' = (flatI d'.toList).toArray := by rw [← flatK_flat]
      unfold sortWorldK putRowK
      rw [e]
      exact this
    · rw [List.pairwise_iff_getElem]
      intro i j hi hj hij
      rw [Array.length_toList] at hi hj
      have h := hs i j (Nat.zero_le _) hij (by omega)
      unfold Go.Proofs.ltOf at h
      rw [decide_eq_false_iff_not, cmpP_lt, getElem!_pos _ j hj, getElem!_pos _ i hi] at h
      have hne : d'[i] ≠ d'[j] := by
        have := List.pairwise_iff_getElem.1 hndd i j (by simpa using hi) (by simpa using hj) hij
        simpa using this
      have hne' : ¬ (d'[i].1 = d'[j].1 ∧ d'[i].2 = d'[j].2) := fun e => hne (Prod.ext e.1 e.2)
      simp only [Array.getElem_toList]
      unfold lexL at h ⊢
      omega
    · unfold sortWorldK putRowK
      exact grown_put id _


set_option maxHeartbeats 4000000 in
set_option maxRecDepth 100000 in
theorem inOrderB_any (B n0 : Nat) (D : DataW Value) (S : Nat → Nat → Bool) (w : World) (hm : RowMap w B n0 D) (hd : MapOf D S (fun _ _ => .bool true)) (hn : n0 ≤ 1000) :
    Calls Try.prog 48 #[.map (some B)] w (NewInsts S w) := by
  have HM := Lib.hid hm
  have HD := Lib.hid hd
  have HB := Lib.hid hm.lt
  have HN0 := Lib.hid hn
  clear hm hd hn
  go_enter Try.func48, Try.ntmps48
  go_wp2_with (first | (at_range; refine wpList_range_own _ rfl _ 82 rfl 80 4 instKeyed Try.underlying82 asIs B n0 D rfl HM.out ?_; intro w1 hrg1 hg1 hs1) | go_in)
  go_frame
  have X1 := Lib.hid (ext_of_grown hg1)
  have R1 := Lib.hid hrg1
  obtain ⟨r, hr⟩ : ∃ r, r = w.heap.size := ⟨_, rfl⟩
  rw [← hr] at R1 ⊢
  have HR := Lib.hid hr
  have HS1 : Hid (r + 1 ≤ w1.heap.size) := Lib.hid (by omega)
  clear hrg1 hg1 hs1 HM hr
  go_loopw [3, 4] (fun s _ wr => ∃ (left : Lit → Bool) (cnt : Nat) (L : List (Nat × Nat)), Hid (RowRange wr B r n0 D left cnt) ∧ Hid (Came S left L) ∧ Hid (FreshIn (r + 1) wr s L) ∧ Hid (L.length + cnt ≤ n0) ∧ Hid (Ext w wr) ∧ Hid (r + 1 ≤ wr.heap.size)) (fun _ _ wr => wr.rangeLeft B r)
  case atStart => exact ⟨_, _, [], R1, Lib.hid (Came.start HD.out), Lib.hid (FreshIn.nil _ _), Lib.hid (by have := R1.out.owns.size_le; simpa using this), X1, HS1⟩
  case round =>
    clear R1 X1 HS1
    obtain ⟨left, cnt, L, R, C, F, N, X, SZ⟩ := hrel
    have hF := F.out
    have hlt0 : ∀ k, u3.ownBlock = some k → r + 1 ≤ k := fun k hk => (World.ownsRow.lt hF k hk).1
    have HLT0 := Lib.hid hlt0
    clear hF hlt0
    go_wp2_with (first | (at_next; refine wpList_next_inst _ rfl _ rfl B r n0 D left cnt _ _ rfl R.out HD.out ?_ ?_) | go_in)
    · intro hl
      clear R
      go_wp2_with fail
      refine (sortInstB_any _ _ L _ F.out C.out.nodup (by have := N.out; have := HN0.out; omega)).mono ?_
      rintro e w2 ⟨⟨rv, rfl⟩, L', f', hp, hlex, hg⟩
      have hmem : ∀ x : Nat × Nat, x ∈ L' ↔ S x.1 x.2 = true := fun x => by
        rw [hp.mem_iff, C.out.mem, hl]
        simp
      have HM := Lib.hid hmem
      have HP := Lib.hid hlex
      have hx2 : Ext w w2 := Below.grown X.out hg X.out.size (fun k hk => by have := HLT0.out k hk; have := HR.out; omega)
      have X2 := Lib.hid hx2
      have hf2 : FreshIn w.heap.size w2 u3 L' := ownsRow_more f' (by have := HR.out; omega)
      have F2 := Lib.hid hf2
      clear hp hlex hg hmem hx2 f' hf2 C F N X hl
      go_wp2
      go_ret
      exact ⟨_, L', rfl, F2.out, HP.out, HM.out, X2.out⟩
    · intro p q w3 cnt3 hS hlk hrg3 hlt hg3 hs3 hen
      have C3 := Lib.hid (C.out.step HD.out hS hlk)
      have N3 : Hid ((L ++ [(p, q)]).length + cnt3 ≤ n0) := Lib.hid (by have := N.out; simp; omega)
      have X3 : Hid (Ext w w3) := Lib.hid (X.out.turned hg3 (by have := HR.out; omega))
      have F3 : Hid (FreshIn (r + 1) w3 u3 L) := Lib.hid (World.ownsRow.kept F.out hg3 (by
        cases hb : u3.ownBlock with
        | none => exact .inl rfl
        | some k => exact .inr (fun e => by cases e; have := HLT0.out _ hb; omega)))
      have R3 := Lib.hid hrg3
      have SZ3 : Hid (r + 1 ≤ w3.heap.size) := Lib.hid (by have := SZ.out; omega)
      have HRO := Lib.hid R.out
      have HLT := Lib.hid hlt
      have HL : Hid (L.length ≤ 1048576) := Lib.hid (by have := N.out; have := HN0.out; omega)
      clear hrg3 hg3 hs3 hlk hS R C N X F SZ hlt
      go_wp2_with (first | (at_builtin; refine wpList_pushI rfl _ _ rfl (r + 1) _ L (p, q) rfl (F3.out.ext (Ext.alloc2 _ _ _)) (w3.heap.size + 1) 1 rfl (by go_simp) (by go_simp) HL.out (Nat.le_trans SZ3.out (Ext.alloc2 _ _ _).size) ?_; intro v' w4 f4 hg4 hk4) | go_in)
      have F4 := Lib.hid f4
      have X4 := Lib.hid (hk4 w (X3.out.trans (Ext.alloc2 _ _ _)) (by have := HR.out; omega))
      have R4 : Hid (RowRange w4 B r n0 D (fun z => left z && !z.sameKey (kl (p : Int) ((q : Int) + 1))) cnt3) := Lib.hid ((R3.out.ext (Ext.alloc2 _ _ _)).kept hg4 (fun e => by have := HLT0.out _ e.symm; have := HB.out; have := HR.out; omega) (fun e => by have := HLT0.out _ e.symm; omega))
      have SZ4 : Hid (r + 1 ≤ w4.heap.size) := Lib.hid (Nat.le_trans (Nat.le_trans SZ3.out (Ext.alloc2 _ _ _).size) hg4.size)
      clear f4 hg4 hk4 F3 X3 R3 SZ3
      go_wp2
      go_roundw
      case rel => exact ⟨_, _, _, R4, C3, F4, N3, X4, SZ4⟩
      case measure => rw [R4.out.left_eq, HRO.out.left_eq]; exact HLT.out

end Go.Proofs.Ytjfnkcohpffigaa

namespace Go.Proofs.Ytjfnkcohpffigaa
open Go.RowKit Go.Maps
set_option linter.unusedVariables false

theorem MapOf.hasNot {D : DataW Value} {S : Nat → Nat → Bool} {f : Nat → Nat → Value} (h : MapOf D S f) {p q : Nat} (hl : p ≤ 1048576 ∧ q ≤ 1048576) (hs : S p q = false) : Maps.has D (kl (p : Int) ((q : Int) + 1)) = false := by
  cases hb : Maps.has D (kl (p : Int) ((q : Int) + 1)) with
  | false => rfl
  | true =>
    obtain ⟨p', q', e, hs'⟩ := h.keys _ hb
    have hl' := h.low p' q' hs'
    by_cases e2 : p = p' ∧ q = q'
    · obtain ⟨rfl, rfl⟩ := e2
      rw [hs] at hs'
      cases hs'
    · exact absurd e (kl_ne hl hl' e2)
theorem lookOk_yes {W : World} {B n0 : Nat} {D : DataW Value} {S : Nat → Nat → Bool} {f : Nat → Nat → Value} (hm : RowMap W B n0 D) (hd : MapOf D S f) {p q : Nat} (hs : S p q = true) :
    (Instr.lookup 70 (.map (some B)) (.agg #[.int .i64 p, .int .i64 ((q : Int) + 1)]) true).run Try.prog W = .ok (.tuple #[f p q, .bool true]) W := by
  have hl := hd.low p q hs
  obtain ⟨v, ps, hrun, hv⟩ := hm.look_ok instKeyed Try.underlying70 (zeroRow W) (zd := .held _) (zp := []) rfl (keyOf_inst (a := p) (b := (q : Int) + 1) (wf_small (by omega) (by omega)) (wf_small (by omega) (by omega)))
  rw [hd.val p q hs] at hv
  rw [hd.has p q hs] at hrun
  simp only [asIs, Option.some.injEq, Prod.mk.injEq, DataW.held.injEq] at hv
  rw [hv.1] at hrun
  exact hrun
theorem lookOk_no {W : World} {B n0 : Nat} {D : DataW Value} {S : Nat → Nat → Bool} {f : Nat → Nat → Value} (hm : RowMap W B n0 D) (hd : MapOf D S f) {p q : Nat} (hl : p ≤ 1048576 ∧ q ≤ 1048576) (hs : S p q = false) :
    (Instr.lookup 70 (.map (some B)) (.agg #[.int .i64 p, .int .i64 ((q : Int) + 1)]) true).run Try.prog W = .ok (.tuple #[.agg #[.int .i64 0, .int .i64 0, .int .i64 0, .int .i64 0, .int .i64 0, .int .i64 0, .int .i64 0, .int .i64 0, .int .i64 0, .slice none 0 0], .bool false]) W := by
  have hn := hd.hasNot hl hs
  obtain ⟨v, ps, hrun, hv⟩ := hm.look_ok instKeyed Try.underlying70 (zeroRow W) (zd := .held _) (zp := []) rfl (keyOf_inst (a := p) (b := (q : Int) + 1) (wf_small (by omega) (by omega)) (wf_small (by omega) (by omega)))
  rw [Maps.atKey_of_not_has hn] at hv
  rw [hn] at hrun
  simp only [asIs, Option.some.injEq, Prod.mk.injEq, DataW.held.injEq] at hv
  rw [hv.1] at hrun
  exact hrun

theorem all_upto {L : List (Nat × Nat)} {S : Nat → Nat → Bool} {k : Nat} (h : k < L.length) (ha : (L.take k).all (fun x => S x.1 x.2) = true) (hs : S L[k].1 L[k].2 = true) : (L.take (k + 1)).all (fun x => S x.1 x.2) = true := by
  rw [List.take_add_one, List.getElem?_eq_getElem h, List.all_append, ha]
  simp [hs]

set_option maxHeartbeats 2000000 in
set_option maxRecDepth 100000 in
theorem areAllIn_any (n : Int) (T : List (List RowD)) (U : Nat → Nat → Value) (L : List (Nat × Nat)) (v : Value) (B n0 : Nat) (D : DataW Value) (S : Nat → Nat → Bool) (w : World) (hv : InstsAt w v L) (hlow : ∀ x ∈ L, x.1 ≤ 1048576 ∧ x.2 ≤ 1048576)
    (hm : RowMap w B n0 D) (hd : MapOf D S (rowF n T U)) (hC : ∀ p q, S p q = true → inT T p q = true) (hli : Lists w n T U) :
    Calls Try.prog 87 #[.map (some B), v] w (BoolExt (L.all fun x => S x.1 x.2) w) := by
  obtain ⟨b, hb⟩ : ∃ b, b = L.all fun x => S x.1 x.2 := ⟨_, rfl⟩
  rw [← hb]
  have HBB := Lib.hid hb
  have HM := Lib.hid hm
  have HD := Lib.hid hd
  have HC := Lib.hid hC
  have HLI := Lib.hid hli
  have HLOW := Lib.hid hlow
  obtain ⟨au, cu, rfl, hlu, _, hcu⟩ := hv
  unfold maxLen at hlu
  have HCU := Lib.hid hcu
  clear hm hd hC hli hlow hcu hb
  go_enter Try.func87, Try.ntmps87
  go_wp2
  go_loopw [11] (fun i wr => ∃ k : Nat, k ≤ L.length ∧ i = .int .i64 k ∧ Hid ((L.take k).all (fun x => S x.1 x.2) = true) ∧ Hid (Ext w wr)) (fun i _ => L.length - (intOf i).toNat)
  case atStart => exact ⟨0, Nat.zero_le _, rfl, Lib.hid (by simp), Lib.hid (Ext.refl _)⟩
  case round =>
    obtain ⟨k, hk, rfl, HA, HX⟩ := hrel
    by_cases hlt : k < L.length
    · obtain ⟨bu, ou, rfl, du⟩ := HCU.out (by omega)
      obtain ⟨q0, q1⟩ := du k hlt
      obtain ⟨x, hx⟩ : ∃ x, x = L[k] := ⟨_, rfl⟩
      rw [← hx] at q0 q1
      have g0 := HX.out.cell q0
      have g1 := HX.out.cell q1
      have hxl := HLOW.out x (by rw [hx]; exact List.getElem_mem hlt)
      have HXK := Lib.hid hx
      obtain ⟨p, q⟩ := x
      clear q0 q1 hx du
      cases hs : S p q with
      | true =>
        obtain ⟨au, cu', hUf, _⟩ := HLI.out p q (HC.out p q hs)
        have hlk := lookOk_yes (HM.out.ext (HX.out.alloc (.cells #[.int .i64 p, .int .i64 ((q : Int) + 1)] 80))) HD.out hs
        unfold rowF rowV at hlk
        obtain ⟨d, hd⟩ : ∃ d, d = rowOf n T p q := ⟨_, rfl⟩
        rw [← hd] at hlk hUf
        rw [hUf] at hlk
        have HN : Hid ((L.take (k + 1)).all (fun x => S x.1 x.2) = true) := Lib.hid (all_upto hlt HA.out (by rw [← HXK.out]; exact hs))
        clear hUf hd hs HA
        go_wp2
        go_roundw
        case rel => exact ⟨k + 1, by omega, by go_num, HN, Lib.hid ((HX.out.alloc _).alloc _)⟩
        case measure => simp [intOf]; omega
      | false =>
        have hlk := lookOk_no (HM.out.ext (HX.out.alloc (.cells #[.int .i64 p, .int .i64 ((q : Int) + 1)] 80))) HD.out hxl hs
        have hres : b = false := by
          rw [HBB.out, List.all_eq_false]
          refine ⟨(p, q), by rw [HXK.out]; exact List.getElem_mem hlt, ?_⟩
          simp [hs]
        subst hres
        clear hs HA
        go_wp2
        go_ret
        exact ⟨rfl, (HX.out.alloc _).alloc _⟩
    · obtain rfl : k = L.length := by omega
      have hres : b = true := by rw [HBB.out]; have h := HA.out; rwa [List.take_length] at h
      subst hres
      clear HA
      go_wp2
      go_ret
      exact ⟨rfl, HX.out⟩

end Go.Proofs.Ytjfnkcohpffigaa

namespace Go.Proofs.Ytjfnkcohpffigaa
open Go.RowKit Go.Maps
set_option linter.unusedVariables false

/-- How many entries a map's block has. -/
def entriesOf (w : World) (b : Nat) : Nat := match w.heap[b]? with
  | some (.map es _) => es.size
  | _ => 0
theorem entries_eq {w : World} {b n : Nat} {D : DataW Value} (h : RowMap w b n D) : entriesOf w b = Maps.size D := by
  obtain ⟨es, clock, hb, F, hs, rfl⟩ := h
  unfold entriesOf
  rw [hb]
  show es.size = _
  rw [Maps.size_eq, length_sorted]
  simp
theorem size_less {w : World} {b n : Nat} {D : DataW Value} (h : RowMap w b n D) {l : Lit} (hh : Maps.has D l = true) : Maps.size (D.del l) + 1 = Maps.size D := by
  have := Maps.size_del (k := l) (h.tidy instKeyed)
  rw [hh] at this
  simpa using this
def flagN : Value → Nat
  | .bool true => 1
  | _ => 0

set_option maxHeartbeats 4000000 in
set_option maxRecDepth 100000 in
theorem readyIn_any (n : Int) (u : Value) (T : List (List RowD)) (U : Nat → Nat → Value) (w : World) (hu : TabAt w u T U) (hg : goodTab n T = true) :
    Calls Try.prog 37 #[.agg #[.int .i64 n, u]] w (NewRowMap T (readyB n T) (rowF n T U) w) := by
  have H56 := Lib.hid (goodTab_both hg)
  have HG := Lib.hid hg
  obtain ⟨wb, hwb⟩ : ∃ wb, wb = w.alloc (.cells #[.int .i64 n, u] 31) := ⟨_, rfl⟩
  have xb : Ext w wb := by rw [hwb]; exact Ext.alloc1 _ _
  have HL := Lib.hid ((hu.ext xb).lists n)
  have HU := Lib.hid (hu.ext xb)
  have XB := Lib.hid xb
  have HWB := Lib.hid hwb
  obtain ⟨au, cu, rfl, hlu, _, _⟩ := hu
  unfold maxLen at hlu
  clear hg xb hwb
  go_enter Try.func37, Try.ntmps37
  go_wp2_with fail
  rw [← HWB.out]
  refine (committedIn_any n _ T U _ HU.out H56.out.1 H56.out.2).mono ?_
  rintro e w1 ⟨B, D0, rfl, m1, d1, hb1, x1⟩
  have HB := Lib.hid hb1
  have M1 := Lib.hid m1
  have D1 := Lib.hid d1
  have X1 := Lib.hid x1
  clear m1 d1 hb1 x1
  go_wp2
  go_loopw [4, 5, 6] (fun f _ _ wr => ∃ (fl : Bool) (D : DataW Value) (S : Nat → Nat → Bool), f = .bool fl ∧ Hid (RowMap wr B 30 D) ∧ Hid (MapOf D S (rowF n T U)) ∧ Hid (Betw n T S) ∧ Hid (fl = false → ∀ p q, S p q = true → AllHere n T S p q) ∧ Hid (Ext wb wr)) (fun f _ _ wr => 2 * entriesOf wr B + flagN f)
  case atStart => exact ⟨true, D0, _, rfl, M1, D1, Lib.hid (Betw.start n T), Lib.hid (fun h => by cases h), X1⟩
  case round =>
    clear M1 D1 X1
    obtain ⟨fl, D, S, rfl, M, MO, BT, CL, X⟩ := hrel
    cases fl with
    | false =>
      have MR : Hid (MapOf D (readyB n T) (rowF n T U)) := Lib.hid (MO.out.congr (fun p q => BT.out.done (CL.out rfl) p q) (fun _ _ _ => rfl))
      have XE := Lib.hid (XB.out.trans X.out)
      have HBE : Hid (w.heap.size ≤ B) := Lib.hid (Nat.le_trans XB.out.size HB.out)
      clear CL MO BT
      go_wp2
      go_ret
      exact ⟨_, D, rfl, M.out, MR.out, HBE.out, XE.out⟩
    | true =>
      clear CL
      go_wp2_with (first | (at_range; refine wpList_range_own _ rfl _ 70 rfl 80 69 instKeyed Try.underlying70 asIs B 30 D rfl M.out ?_; intro w2 hrg2 hg2 hs2) | go_in)
      go_frame
      have X2 := Lib.hid (X.out.trans (ext_of_grown hg2))
      have R2 := Lib.hid hrg2
      have HE := Lib.hid (entries_eq M.out)
      obtain ⟨r, hr⟩ : ∃ r, r = wr.heap.size := ⟨_, rfl⟩
      rw [← hr] at R2 ⊢
      have HRB : Hid (wb.heap.size ≤ r) := Lib.hid (by rw [hr]; exact X.out.size)
      obtain ⟨k0, hk0⟩ : ∃ k0, k0 = Maps.size D := ⟨_, rfl⟩
      have HK0 := Lib.hid hk0
      have HST : Hid (∀ p q, S p q = true → Maps.has D (kl (p : Int) ((q : Int) + 1)) = false → AllHere n T S p q) := Lib.hid (fun p q hs hh => by rw [MO.out.has p q hs] at hh; cases hh)
      clear hrg2 hg2 hs2 M X hr hk0
      go_loopw [4, 5, 6] (fun f _ _ wr => ∃ (fl : Bool) (D : DataW Value) (S : Nat → Nat → Bool) (left : Lit → Bool) (cnt : Nat), f = .bool fl ∧ Hid (RowRange wr B r 30 D left cnt) ∧ Hid (MapOf D S (rowF n T U)) ∧ Hid (Betw n T S) ∧ Hid (fl = false → ∀ p q, S p q = true → left (kl (p : Int) ((q : Int) + 1)) = false → AllHere n T S p q) ∧ Hid ((fl = false → Maps.size D = k0) ∧ (fl = true → Maps.size D + 1 ≤ k0)) ∧ Hid (Ext wb wr)) (fun _ _ _ wr => wr.rangeLeft B r)
      case atStart => exact ⟨false, D, S, _, _, rfl, R2, MO, BT, Lib.hid (fun _ => HST.out), Lib.hid ⟨fun _ => HK0.out.symm, fun h => by cases h⟩, X2⟩
      case round =>
        clear R2 MO BT HST X2
        obtain ⟨fl, D', S', left, cnt, rfl, R, MO, BT, CH, SZ, X⟩ := hrel
        go_wp2_with (first | (at_next; refine wpList_next_inst _ rfl _ rfl B r 30 D' left cnt _ _ rfl R.out MO.out ?_ ?_) | go_in)
        · intro hl
          have MN := Lib.hid R.out.owns
          have CN : Hid (fl = false → ∀ p q, S' p q = true → AllHere n T S' p q) := Lib.hid (fun h p q hs => CH.out h p q hs (hl _))
          have EN := Lib.hid (entries_eq MN.out)
          clear CH R hl
          go_wp2
          go_roundw
          case rel => exact ⟨fl, D', S', rfl, MN, MO, BT, CN, X⟩
          case measure =>
            have h1 := HE.out
            have h2 := EN.out
            have h3 := HK0.out
            have h4 := SZ.out
            rw [h1, h2]
            cases fl with
            | true => have := h4.2 rfl; simp [flagN]; omega
            | false => have := h4.1 rfl; simp [flagN]; omega
        · intro p q w3 cnt3 hS hlk hrg3 hlt hg3 hs3 hen
          have hx3 : Ext wb w3 := X.out.turned hg3 HRB.out
          have hcm := BT.out.com p q hS
          have hi := instCom_inT hcm
          obtain ⟨hpT, hqT⟩ := inT_of hi
          obtain ⟨ay, cy, hU, _⟩ := HL.out p q hi
          have hint := (HL.out p q hi).ext hx3
          obtain ⟨d, hd⟩ : ∃ d, d = rowOf n T p q := ⟨_, rfl⟩
          unfold rowF rowV at hen ⊢
          rw [hU] at hint
          rw [← hd] at hen hint hU ⊢
          rw [hU] at hen ⊢
          have hdi : ∀ k, 0 ≤ depI d k ∧ depI d k ≤ 6 := fun k => by rw [hd]; exact dep_in HG.out hpT q k
          have hdl : d.l.length ≤ 5 := by rw [hd]; exact rowOf_list HG.out hpT q
          have HDI := Lib.hid hdi
          have HINT := Lib.hid hint
          have HD := Lib.hid hd
          have R3 := Lib.hid hrg3
          have X3 := Lib.hid hx3
          have HLT := Lib.hid hlt
          have HRO := Lib.hid R.out
          have HS := Lib.hid hS
          have HLK := Lib.hid hlk
          have HI := Lib.hid hi
          clear hrg3 hx3 hg3 hs3 hlk hcm hi hint hU R X hlt hS hdi hd hqT
          go_wp2_with fail
          refine (hungOn_any d d.s _ _ (HINT.out.ext (Ext.alloc2 _ _ _)) hdl HDI.out).mono ?_
          obtain ⟨w4, hw4⟩ : ∃ w4, w4 = ((w3.alloc (.cells #[.int .i64 p, .int .i64 ((q : Int) + 1)] 80)).alloc (.cells #[.int .i64 d.b, .int .i64 d.v, .int .i64 d.st, .int .i64 d.k, .int .i64 d.i, .int .i64 d.f, .int .i64 d.t, .int .i64 d.a, .int .i64 d.s, .slice ay d.l.length cy] 69)) := ⟨_, rfl⟩
          have x34 : Ext w3 w4 := by rw [hw4]; exact Ext.alloc2 _ _ _
          have T4 := Lib.hid (two_new w3 (p : Int) ((q : Int) + 1) 80 69 #[.int .i64 d.b, .int .i64 d.v, .int .i64 d.st, .int .i64 d.k, .int .i64 d.i, .int .i64 d.f, .int .i64 d.t, .int .i64 d.a, .int .i64 d.s, .slice ay d.l.length cy])
          rw [← hw4] at T4 ⊢
          obtain ⟨b5, hb5⟩ : ∃ b5, b5 = w3.heap.size := ⟨_, rfl⟩
          rw [← hb5] at T4 ⊢
          clear hw4 hb5
          rintro e w5 ⟨v5, rfl, f5, x5⟩
          have X5 := Lib.hid (X3.out.trans (x34.trans x5))
          have R5 := Lib.hid (R3.out.ext (x34.trans x5))
          have T5 := Lib.hid (T4.out.ext x5)
          have F5 := Lib.hid f5.at
          have hlow : ∀ x ∈ hungL d, x.1 ≤ 1048576 ∧ x.2 ≤ 1048576 := fun x hx => by
            have h := mem_hungL.1 hx
            have h2 := HDI.out x.1
            unfold depM at h
            omega
          have HLOW := Lib.hid hlow
          have hlow2 := inT_low H56.out.1 H56.out.2 HI.out
          clear x34 x5 f5 R3 X3 T4 hlow HINT
          go_wp2_with fail
          refine (areAllIn_any n T U (hungL d) v5 B 30 D' S' _ F5.out HLOW.out R5.out.owns MO.out (fun p q h => instCom_inT (BT.out.com p q h)) (HL.out.ext X5.out)).mono ?_
          rintro e w6 ⟨rfl, x6⟩
          have X6 := Lib.hid (X5.out.trans x6)
          have R6 := Lib.hid (R5.out.ext x6)
          obtain ⟨t0, t1⟩ := T5.out.ext x6
          have hall : AllHere n T S' p q ↔ ((hungL d).all fun x => S' x.1 x.2) = true := by unfold AllHere; rw [← HD.out]
          have HALL := Lib.hid hall
          clear x6 hall R5 X5 T5 F5 HLOW
          cases hb : ((hungL d).all fun x => S' x.1 x.2) with
          | true =>
            have CN : Hid (fl = false → ∀ p' q', S' p' q' = true → (fun z => left z && !z.sameKey (kl (p : Int) ((q : Int) + 1))) (kl (p' : Int) ((q' : Int) + 1)) = false → AllHere n T S' p' q') := Lib.hid (fun h p' q' hs hl => by
              by_cases e : (p', q') = (p, q)
              · simp only [Prod.mk.injEq] at e
                obtain ⟨rfl, rfl⟩ := e
                exact HALL.out.2 hb
              · have hl' := MO.out.low p' q' hs
                exact CH.out h p' q' hs (left_other (x := (p', q')) hl' (by omega) e hl))
            clear hb CH t0 t1
            go_wp2
            go_roundw
            case rel => exact ⟨fl, D', S', _, _, rfl, R6, MO, BT, CN, SZ, X6⟩
            case measure => rw [R6.out.left_eq, HRO.out.left_eq]; exact HLT.out
          | false =>
            have hnot : ¬ AllHere n T S' p q := fun h => by rw [HALL.out.1 h] at hb; cases hb
            have BN := Lib.hid (BT.out.drop hnot)
            have MN := Lib.hid (MO.out.del (p := p) (q := q) (by omega))
            have hsz := size_less R6.out.owns (MO.out.has p q HS.out)
            have SN : Hid (Maps.size (D'.del (kl (p : Int) ((q : Int) + 1))) + 1 ≤ k0) := Lib.hid (by
              have h4 := SZ.out
              cases fl with
              | true => have := h4.2 rfl; omega
              | false => have := h4.1 rfl; omega)
            clear hb CH hnot hsz BT MO SZ
            go_wp2_with (first | (at_delete; refine wpList_delete_ranges _ rfl _ _ 70 80 rfl 69 instKeyed Try.underlying70 asIs B r 30 D' _ _ rfl R6.out _ (kl (p : Int) ((q : Int) + 1)) rfl (keyOf_inst (wf_small (by omega) (by omega)) (wf_small (by omega) (by omega))) ?_; intro w7 cnt7 hrg7 hle ht7) | go_in)
            rw [Maps.strike_twice] at hrg7
            have R7 := Lib.hid hrg7
            have X7 : Hid (Ext wb w7) := Lib.hid (X6.out.turned ht7.grown HB.out)
            have HLE := Lib.hid hle
            clear hrg7 ht7 hle R6 X6
            go_wp2
            go_roundw
            case rel => exact ⟨true, _, _, _, _, rfl, R7, MN, BN, Lib.hid (fun h => by cases h), Lib.hid ⟨(fun h => by cases h), fun _ => SN.out⟩, X7⟩
            case measure => rw [R7.out.left_eq, HRO.out.left_eq]; exact Nat.lt_of_le_of_lt HLE.out HLT.out

end Go.Proofs.Ytjfnkcohpffigaa
