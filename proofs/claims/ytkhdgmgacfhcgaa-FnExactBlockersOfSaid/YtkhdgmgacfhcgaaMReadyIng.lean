/- Texts of this proof, part g: words, plain facts, contracts. -/
import Derived.Test.YtkhdgmgacfhcgaaMReadyInc
import Derived.Test.YtkhdgmgacfhcgaaMReadyInf
import Derived.WalkArith
import Derived.Test.YtkhdgmgacfhcgaaMReadyIna
import Derived.Deep.Cut
import Derived.Test.YtkhdgmgacfhcgaaMReadyIne
import Derived.Deep.DeepCutAuto
import Derived.Deep.RegionWith
import Derived.Deep.RegionHeld3

namespace Go.Proofs.Ytkhdgmgacfhcgaa
open Go.RowKit Go.Maps
set_option linter.unusedVariables false

theorem wf_small {x : Int} (h0 : 0 ≤ x) (h1 : x ≤ 1048577) : wf64 x := by
  exact WalkArith.wf_i64 (by omega)
/-! ### A table, its lists named -/
def RowsAt (w : World) (x : Value) (R : List RowD) (V : Nat → Value) : Prop :=
  ∃ ao cap, x = .slice ao R.length cap ∧ R.length ≤ maxLen ∧ (R.length ≤ cap ∧ cap ≤ maxLen ∧ (ao = none → cap = 0)) ∧
    (0 < R.length → ∃ b off, ao = some ⟨b, off, none⟩ ∧ ∀ j (h : j < R.length), RowIn w b (off + j * 10) R[j] (V j) ∧ Ints w (V j) R[j].l)
def TabAt (w : World) (u : Value) (T : List (List RowD)) (U : Nat → Nat → Value) : Prop :=
  ∃ ao cap, u = .slice ao T.length cap ∧ T.length ≤ maxLen ∧ (T.length ≤ cap ∧ cap ≤ maxLen ∧ (ao = none → cap = 0)) ∧
    (0 < T.length → ∃ b off, ao = some ⟨b, off, none⟩ ∧ ∀ j (h : j < T.length), ∃ x, w.cell? ⟨b, off + j, none⟩ = some x ∧ RowsAt w x T[j] (U j))
theorem RowsAt.ext {w w' : World} {x : Value} {R : List RowD} {V : Nat → Value} (h : RowsAt w x R V) (e : Ext w w') : RowsAt w' x R V := by
  obtain ⟨ao, cap, hv, hm, hcap, hc⟩ := h
  refine ⟨ao, cap, hv, hm, hcap, fun hp => ?_⟩
  obtain ⟨b, off, ha, hc⟩ := hc hp
  exact ⟨b, off, ha, fun j hj => ⟨(hc j hj).1.ext e, (hc j hj).2.ext e⟩⟩
theorem TabAt.ext {w w' : World} {u : Value} {T : List (List RowD)} {U : Nat → Nat → Value} (h : TabAt w u T U) (e : Ext w w') : TabAt w' u T U := by
  obtain ⟨ao, cap, hv, hm, hcap, hc⟩ := h
  refine ⟨ao, cap, hv, hm, hcap, fun hp => ?_⟩
  obtain ⟨b, off, ha, hc⟩ := hc hp
  refine ⟨b, off, ha, fun j hj => ?_⟩
  obtain ⟨x, hx, hr⟩ := hc j hj
  exact ⟨x, e.cell hx, hr.ext e⟩
theorem rowsAt_of {w : World} {x : Value} {R : List RowD} (h : Rowz w x R) : ∃ V, RowsAt w x R V := by
  obtain ⟨ao, cap, hv, hm, hcap, hc⟩ := h
  by_cases hp : 0 < R.length
  · obtain ⟨b, off, ha, hc⟩ := hc hp
    refine ⟨fun j => if h : j < R.length then Classical.choose (hc j h) else .bool false, ao, cap, hv, hm, hcap, fun _ => ⟨b, off, ha, fun j hj => ?_⟩⟩
    have := Classical.choose_spec (hc j hj)
    simp only [hj, dif_pos]
    exact this
  · exact ⟨fun _ => .bool false, ao, cap, hv, hm, hcap, fun h => absurd h hp⟩
theorem tabAt_of {w : World} {u : Value} {T : List (List RowD)} (h : Rowzz w u T) : ∃ U, TabAt w u T U := by
  obtain ⟨ao, cap, hv, hm, hcap, hc⟩ := h
  by_cases hp : 0 < T.length
  · obtain ⟨b, off, ha, hc⟩ := hc hp
    have hc' : ∀ j (h : j < T.length), ∃ V : Nat → Value, ∃ x, w.cell? ⟨b, off + j, none⟩ = some x ∧ RowsAt w x T[j] V := fun j hj => by
      obtain ⟨x, hx, hr⟩ := hc j hj
      obtain ⟨V, hV⟩ := rowsAt_of hr
      exact ⟨V, x, hx, hV⟩
    refine ⟨fun j => if h : j < T.length then Classical.choose (hc' j h) else fun _ => .bool false, ao, cap, hv, hm, hcap, fun _ => ⟨b, off, ha, fun j hj => ?_⟩⟩
    have := Classical.choose_spec (hc' j hj)
    simp only [hj, dif_pos]
    exact this
  · exact ⟨fun _ _ => .bool false, ao, cap, hv, hm, hcap, fun h => absurd h hp⟩

/-- A row as a value. -/
def rowV (r : RowD) (u : Value) : Value := .agg #[.int .i64 r.b, .int .i64 r.v, .int .i64 r.st, .int .i64 r.k, .int .i64 r.i, .int .i64 r.f, .int .i64 r.t, .int .i64 r.a, .int .i64 r.s, u]
def rowF (n : Int) (T : List (List RowD)) (U : Nat → Nat → Value) (p q : Nat) : Value := rowV (rowOf n T p q) (U p q)
/-- Is an instance in a table's lists? -/
def inT (T : List (List RowD)) (p q : Nat) : Bool := decide (q < (T[p]?.getD []).length)
theorem inT_of {T : List (List RowD)} {p q : Nat} (h : inT T p q = true) : ∃ (hp : p < T.length), q < T[p].length := by
  unfold inT at h
  have h' := of_decide_eq_true h
  by_cases hp : p < T.length
  · rw [List.getElem?_eq_getElem hp] at h'
    exact ⟨hp, h'⟩
  · rw [List.getElem?_eq_none (by omega)] at h'
    simp at h'
theorem inT_mk {T : List (List RowD)} {p q : Nat} (hp : p < T.length) (hq : q < T[p].length) : inT T p q = true := by
  unfold inT
  rw [List.getElem?_eq_getElem hp]
  exact decide_eq_true hq
/-- The lists of all rows read. -/
def Lists (w : World) (n : Int) (T : List (List RowD)) (U : Nat → Nat → Value) : Prop := ∀ p q, inT T p q = true → Ints w (U p q) (rowOf n T p q).l
theorem Lists.ext {w w' : World} {n : Int} {T : List (List RowD)} {U : Nat → Nat → Value} (h : Lists w n T U) (e : Ext w w') : Lists w' n T U := fun p q hi => (h p q hi).ext e
theorem TabAt.lists {w : World} {u : Value} {T : List (List RowD)} {U : Nat → Nat → Value} (n : Int) (h : TabAt w u T U) : Lists w n T U := by
  intro p q hi
  obtain ⟨hp, hq⟩ := inT_of hi
  obtain ⟨_, _, _, _, _, hc⟩ := h
  obtain ⟨b, off, _, hc⟩ := hc (by omega)
  obtain ⟨x, _, hr⟩ := hc p hp
  obtain ⟨_, _, _, _, _, hr⟩ := hr
  obtain ⟨b', off', _, hr⟩ := hr (by omega)
  rw [rowOf_in hp hq]
  exact (hr q hq).2

/-! ### A map that holds values -/
/-- How an element reads here: as itself. -/
def asIs (v : Value) : Option (DataW Value × List MemPlace) := some (.held v, [])

/-- The map holds just the instances of S, each with its value. -/
structure MapOf (D : DataW Value) (S : Nat → Nat → Bool) (f : Nat → Nat → Value) : Prop where
  isMap : Maps.IsMap D
  low : ∀ p q, S p q = true → p ≤ 1048576 ∧ q ≤ 1048576
  has : ∀ p q, S p q = true → Maps.has D (kl p ((q : Int) + 1)) = true
  val : ∀ p q, S p q = true → ∀ z, D.atKey (kl p ((q : Int) + 1)) z = .held (f p q)
  keys : ∀ l, Maps.has D l = true → ∃ p q : Nat, l = kl (p : Int) ((q : Int) + 1) ∧ S p q = true
theorem MapOf.empty (f : Nat → Nat → Value) : MapOf (.map []) (fun _ _ => false) f :=
  ⟨⟨_, rfl⟩, (fun _ _ h => by cases h), (fun _ _ h => by cases h), (fun _ _ h => by cases h), (fun l h => by cases h)⟩
theorem MapOf.congr {D : DataW Value} {S S' : Nat → Nat → Bool} {f f' : Nat → Nat → Value} (h : MapOf D S f) (hs : ∀ p q, S' p q = S p q) (hf : ∀ p q, S p q = true → f' p q = f p q) : MapOf D S' f' :=
  ⟨h.isMap, fun p q e => h.low p q (by rw [← hs]; exact e), fun p q e => h.has p q (by rw [← hs]; exact e), fun p q e z => by rw [hs] at e; rw [hf p q e]; exact h.val p q e z, fun l hl => by
    obtain ⟨p, q, e, hS⟩ := h.keys l hl
    exact ⟨p, q, e, by rw [hs]; exact hS⟩⟩
theorem kl_ne {p q p' q' : Nat} (h1 : p ≤ 1048576 ∧ q ≤ 1048576) (h2 : p' ≤ 1048576 ∧ q' ≤ 1048576) (h : ¬ (p = p' ∧ q = q')) : kl (p : Int) ((q : Int) + 1) ≠ kl (p' : Int) ((q' : Int) + 1) := by
  intro e
  obtain ⟨a, b⟩ := kl_inj (wf_small (by omega) (by omega)) (wf_small (by omega) (by omega)) (wf_small (by omega) (by omega)) (wf_small (by omega) (by omega)) e
  omega
theorem MapOf.put {D : DataW Value} {S : Nat → Nat → Bool} {f : Nat → Nat → Value} (h : MapOf D S f) {p q : Nat} (hl : p ≤ 1048576 ∧ q ≤ 1048576) {v : Value} (hv : f p q = v) :
    MapOf (D.put (kl p ((q : Int) + 1)) (.held v)) (fun p' q' => S p' q' || (decide (p' = p) && decide (q' = q))) f := by
  have hk : WideAt.IsKeyLit (kl p ((q : Int) + 1)) := instKeyed.key (keyOf_inst (wf_small (by omega) (by omega)) (wf_small (by omega) (by omega)))
  have hS : ∀ p' q', (S p' q' || (decide (p' = p) && decide (q' = q))) = true → (p' = p ∧ q' = q) ∨ S p' q' = true := fun p' q' hs => by
    rcases Bool.or_eq_true_iff.1 hs with hs | hs
    · exact .inr hs
    · simp at hs; exact .inl hs
  refine ⟨h.isMap.put _ _, fun p' q' hs => ?_, fun p' q' hs => ?_, fun p' q' hs z => ?_, fun l hl' => ?_⟩
  · rcases hS p' q' hs with ⟨rfl, rfl⟩ | hs
    · exact hl
    · exact h.low p' q' hs
  · by_cases e : p' = p ∧ q' = q
    · obtain ⟨rfl, rfl⟩ := e
      exact Maps.has_put_same h.isMap hk _
    · have hs' := (hS p' q' hs).resolve_left e
      rw [Maps.has_put_other (kl_ne (h.low _ _ hs') hl e)]
      exact h.has p' q' hs'
  · by_cases e : p' = p ∧ q' = q
    · obtain ⟨rfl, rfl⟩ := e
      rw [Maps.atKey_put_same h.isMap hk, hv]
    · have hs' := (hS p' q' hs).resolve_left e
      rw [Maps.atKey_put_other (kl_ne (h.low _ _ hs') hl e)]
      exact h.val p' q' hs' z
  · by_cases e : l = kl p ((q : Int) + 1)
    · refine ⟨p, q, e, ?_⟩
      simp
    · rw [Maps.has_put_other e] at hl'
      obtain ⟨p', q', e', hs⟩ := h.keys l hl'
      refine ⟨p', q', e', ?_⟩
      simp [hs]
theorem MapOf.del {D : DataW Value} {S : Nat → Nat → Bool} {f : Nat → Nat → Value} (h : MapOf D S f) {p q : Nat} (hl : p ≤ 1048576 ∧ q ≤ 1048576) :
    MapOf (D.del (kl p ((q : Int) + 1))) (fun p' q' => S p' q' && !(decide (p' = p) && decide (q' = q))) f := by
  have hS : ∀ p' q', (S p' q' && !(decide (p' = p) && decide (q' = q))) = true → S p' q' = true ∧ ¬ (p' = p ∧ q' = q) := fun p' q' hs => by
    simp at hs
    exact ⟨hs.1, by omega⟩
  refine ⟨h.isMap.del _, fun p' q' hs => h.low p' q' (hS p' q' hs).1, fun p' q' hs => ?_, fun p' q' hs z => ?_, fun l hl' => ?_⟩
  · obtain ⟨hs, e⟩ := hS p' q' hs
    rw [Maps.has_del_other (kl_ne (h.low _ _ hs) hl e)]
    exact h.has p' q' hs
  · obtain ⟨hs, e⟩ := hS p' q' hs
    rw [Maps.atKey_del_other (kl_ne (h.low _ _ hs) hl e)]
    exact h.val p' q' hs z
  · by_cases e : l = kl p ((q : Int) + 1)
    · subst e
      rw [Maps.has_del_same] at hl'
      cases hl'
    · rw [Maps.has_del_other e] at hl'
      obtain ⟨p', q', e', hs⟩ := h.keys l hl'
      refine ⟨p', q', e', ?_⟩
      simp only [hs, Bool.true_and, Bool.not_eq_true']
      by_cases e2 : p' = p ∧ q' = q
      · obtain ⟨rfl, rfl⟩ := e2
        exact absurd e' e
      · simpa using e2

/-! ### kept -/
theorem Ext.grownNone {w w' : World} (e : Ext w w') : w.grownBy w' none := ⟨e.os, e.tape, e.output, e.size, fun k hk _ => Below.block e k hk⟩
abbrev RowMap (w : World) (b n : Nat) (D : DataW Value) : Prop := w.ownsMap Try.prog 64 asIs b n D
abbrev RowRange (w : World) (b r n : Nat) (D : DataW Value) (left : Lit → Bool) (cnt : Nat) : Prop := w.ranges Try.prog 64 asIs b r n D left cnt
theorem RowMap.ext {w w' : World} {b n : Nat} {D : DataW Value} (h : RowMap w b n D) (e : Ext w w') : RowMap w' b n D := h.kept e.grownNone (by simp)
theorem RowRange.ext {w w' : World} {b r n : Nat} {D : DataW Value} {left : Lit → Bool} {cnt : Nat} (h : RowRange w b r n D left cnt) (e : Ext w w') : RowRange w' b r n D left cnt := h.kept e.grownNone (by simp) (by simp)

/-- THE STEP of a range over such a map. -/
theorem wpList_next_inst (w : World) {ops : Array Oper} {rest : List Oper} {o : Oper} {a : Act} {Q : Exit → Act → World → Prop} (hg : o.guard = none) (it : Operand) (hop : o.op = Op.next it false)
    (b r n : Nat) (D : DataW Value) (left : Lit → Bool) (cnt : Nat) (S : Nat → Nat → Bool) (f : Nat → Nat → Value)
    (hit : a.eval it = .pointer (some ⟨r, 0, none⟩)) (h : RowRange w b r n D left cnt) (hM : MapOf D S f)
    (hDone : (∀ l, left l = false) → wpList Try.prog ops Q rest (a.put o.dst (.tuple #[.bool false])) w)
    (hMore : ∀ (p q : Nat) (w' : World) (cnt' : Nat), S p q = true → left (kl p ((q : Int) + 1)) = true → RowRange w' b r n D (fun z => left z && !z.sameKey (kl p ((q : Int) + 1))) cnt' → cnt' < cnt →
      w.grownBy w' (some r) → w'.heap.size = w.heap.size → (Instr.entry (.pointer (some ⟨r, 0, none⟩))).run Try.prog w' = .ok (.tuple #[.agg #[.int .i64 p, .int .i64 ((q : Int) + 1)], f p q]) w' →
        wpList Try.prog ops Q rest (a.put o.dst (.tuple #[.bool true, .agg #[.int .i64 p, .int .i64 ((q : Int) + 1)], f p q])) w') :
    wpList Try.prog ops Q (o :: rest) a w := by
  refine wpList_next_ranges w hg it hop 64 instKeyed asIs (fun x : Int × Int => instV x.1 x.2) (fun v : Value => v) (fun key l hk => ?_) (fun v y _ => ⟨v, rfl⟩) b r n D left cnt hit h (fun _ hl => hDone hl) ?_
  · obtain ⟨x, y, hv, _⟩ := keyOf_inst_inv hk
    exact ⟨(x, y), hv⟩
  · intro x c l y w' cnt' hkey hlk hv hat hrg hlt hgr hsz hen
    obtain ⟨x1, x2⟩ := x
    obtain ⟨a', b', e1, e2, wa, wb⟩ := keyOf_inst_inv hkey
    simp only [instV] at e1 hen
    obtain ⟨p, q, e3, hS⟩ := hM.keys l (Maps.has_true_of_atKey hat)
    have hlow := hM.low p q hS
    have hinj := kl_inj wa wb (wf_small (by omega) (by omega)) (wf_small (by omega) (by omega)) (e2.symm.trans e3)
    obtain ⟨rfl, rfl⟩ := hinj
    simp only [Value.agg.injEq, Array.mk.injEq, List.cons.injEq, Value.int.injEq, true_and, and_true] at e1
    obtain ⟨rfl, rfl⟩ := e1
    rw [e3] at hat hlk hrg
    have hc := (hM.val p q hS .nil).symm.trans (hat .nil)
    simp only [asIs, Option.some.injEq] at hv
    rw [← hv] at hc
    simp only [DataW.held.injEq] at hc
    rw [← hc] at hen ⊢
    exact hMore p q w' cnt' hS hlk hrg hlt hgr hsz hen


end Go.Proofs.Ytkhdgmgacfhcgaa

namespace Go.Proofs.Ytkhdgmgacfhcgaa
open Go.RowKit Go.Maps
set_option linter.unusedVariables false

/-- The instances ahead of (k, j). -/
def tillT (T : List (List RowD)) (k j p q : Nat) : Bool := inT T p q && (decide (p < k) || (decide (p = k) && decide (q < j)))
theorem tillT_zero (T : List (List RowD)) (p q : Nat) : tillT T 0 0 p q = false := by simp [tillT]
theorem tillT_step {T : List (List RowD)} {k j : Nat} (hk : k < T.length) (hj : j < T[k].length) (p q : Nat) :
    tillT T k (j + 1) p q = (tillT T k j p q || (decide (p = k) && decide (q = j))) := by
  unfold tillT
  by_cases e : p = k ∧ q = j
  · obtain ⟨rfl, rfl⟩ := e
    rw [inT_mk hk hj]
    simp
  · have h1 : (decide (p = k) && decide (q = j)) = false := by simpa using e
    rw [h1, Bool.or_false]
    congr 1
    rw [Bool.eq_iff_iff]
    simp
    omega
theorem tillT_next {T : List (List RowD)} {k : Nat} (hk : k < T.length) (p q : Nat) : tillT T (k + 1) 0 p q = tillT T k T[k].length p q := by
  unfold tillT
  cases hi : inT T p q with
  | false => rfl
  | true =>
    obtain ⟨hp, hq⟩ := inT_of hi
    rw [Bool.eq_iff_iff]
    simp
    by_cases e : p = k
    · subst e
      simp [hq]
    · omega
theorem tillT_all {T : List (List RowD)} (p q : Nat) : tillT T T.length 0 p q = inT T p q := by
  unfold tillT
  cases hi : inT T p q with
  | false => rfl
  | true =>
    obtain ⟨hp, hq⟩ := inT_of hi
    simp [hp]

/-- A map of a table's instances comes back, in new memory. -/
def NewRowMap (T : List (List RowD)) (S : Nat → Nat → Bool) (f : Nat → Nat → Value) (w : World) (e : Ending) (w' : World) : Prop :=
  ∃ b D, e = .returned (.map (some b)) ∧ RowMap w' b 30 D ∧ MapOf D S f ∧ w.heap.size ≤ b ∧ Ext w w'

theorem Ext.turned {w0 w w' : World} {b : Nat} (h : Ext w0 w) (t : w.grownBy w' (some b)) (hb : w0.heap.size ≤ b) : Ext w0 w' := Below.grown h t h.size (fun k hk => by cases hk; exact hb)

set_option maxHeartbeats 4000000 in
set_option maxRecDepth 100000 in
theorem rowsIn_any (n : Int) (u : Value) (T : List (List RowD)) (U : Nat → Nat → Value) (w : World) (hu : TabAt w u T U) (hT : T.length ≤ 5) (hR6 : ∀ R ∈ T, R.length ≤ 6) :
    Calls Try.prog 54 #[.agg #[.int .i64 n, u]] w (NewRowMap T (inT T) (rowF n T U) w) := by
  obtain ⟨au, cu, rfl, hlu, _, hcu⟩ := hu
  unfold maxLen at hlu
  have H6 := Lib.hid hR6
  clear hR6
  have hmm := @run_makeMap Try.prog
  have hx0 : Ext w ((w.alloc (.cells #[.int .i64 n, .slice au T.length cu] 31)).alloc (.map #[] 0)) := Ext.alloc (Ext.alloc1 _ _) _
  have hm0 : RowMap ((w.alloc (.cells #[.int .i64 n, .slice au T.length cu] 31)).alloc (.map #[] 0)) (w.heap.size + 1) 0 (.map []) := by
    have h := World.ownsMap_made (w.alloc (.cells #[.int .i64 n, .slice au T.length cu] 31)) Try.prog 64 asIs
    simpa using h
  have HX0 := Lib.hid hx0
  have HM0 := Lib.hid hm0
  clear hx0 hm0
  go_enter Try.func54, Try.ntmps54
  go_wp2
  go_loopw [12] (fun i wr => ∃ (k : Nat) (D : DataW Value), k ≤ T.length ∧ i = .int .i64 k ∧ Hid (RowMap wr (w.heap.size + 1) (6 * k) D) ∧ Hid (MapOf D (tillT T k 0) (rowF n T U)) ∧ Ext w wr) (fun i _ => T.length - (intOf i).toNat)
  case atStart => exact ⟨0, _, Nat.zero_le _, rfl, HM0, Lib.hid ((MapOf.empty (rowF n T U)).congr (fun p q => tillT_zero T p q) (fun _ _ h => by cases h)), HX0.out⟩
  case round =>
    clear HM0 HX0
    obtain ⟨k, D, hk, rfl, HM, HD, hx⟩ := hrel
    by_cases hlt : k < T.length
    · obtain ⟨bu, ou, rfl, du⟩ := hcu (by omega)
      obtain ⟨x, hx1, ix⟩ := du k hlt
      have gu := hx.cell hx1
      obtain ⟨R, hR⟩ : ∃ R, R = T[k] := ⟨_, rfl⟩
      rw [← hR] at ix
      have hl6 : R.length ≤ 6 := by rw [hR]; exact H6.out _ (List.getElem_mem hlt)
      obtain ⟨ax, cx, rfl, hlx, _, hcx⟩ := ix
      unfold maxLen at hlx
      have HR := Lib.hid hR
      have HX := Lib.hid hx
      clear hcu du hx1 hR hx
      go_wp2
      go_loopw [19] (fun i wr => ∃ (j : Nat) (D : DataW Value), j ≤ R.length ∧ i = .int .i64 j ∧ Hid (RowMap wr (w.heap.size + 1) (6 * k + j) D) ∧ Hid (MapOf D (tillT T k j) (rowF n T U)) ∧ Ext w wr) (fun i _ => R.length - (intOf i).toNat)
      case atStart => exact ⟨0, D, Nat.zero_le _, rfl, HM, HD, HX.out⟩
      case round =>
        clear HM HD HX
        obtain ⟨j, D, hj, rfl, HM, HD, hy⟩ := hrel
        by_cases hjt : j < R.length
        · obtain ⟨bx, ox, rfl, dx⟩ := hcx (by omega)
          obtain ⟨hy1, iy⟩ := dx j hjt
          obtain ⟨ay, cy, hU, _⟩ := iy
          have hval : rowF n T U k j = rowV R[j] (U k j) := by
            unfold rowF
            rw [rowOf_in hlt (by rw [← HR.out]; exact hjt)]
            simp only [HR.out]
          obtain ⟨d, hd⟩ : ∃ d, d = R[j] := ⟨_, rfl⟩
          rw [← hd] at hy1 hval hU
          rw [hU] at hy1 hval
          obtain ⟨g0, g1, g2, g3, g4, g5, g6, g7, g8, g9⟩ := hy1.ext hy
          have hput := HD.out.put (p := k) (q := j) (by omega) hval
          have HP := Lib.hid (hput.congr (S' := tillT T k (j + 1)) (f' := rowF n T U) (fun p q => tillT_step hlt (by rw [← HR.out]; exact hjt) p q) (fun _ _ _ => rfl))
          have HY := Lib.hid hy
          have HB : Hid (w.heap.size ≤ w.heap.size + 1) := Lib.hid (by omega)
          clear dx hy1 hd hcx hval hput HD hy hU
          go_wp2_with (at_mapUpdate; refine wpList_mapUpdate_own _ rfl _ _ _ 54 rfl 64 53 instKeyed Try.underlying54 asIs (w.heap.size + 1) (6 * k + j) D rfl (HM.out.alloc _) (by unfold maxLen; omega) _ _ (kl (k : Int) ((j : Int) + 1)) rfl rfl (keyOf_inst (wf_small (by omega) (by omega)) (wf_small (by omega) (by omega))) (.held (rowV d (.slice ay d.l.length cy))) [] rfl ?_)
          intro w1 hown1 hgrow1
          have hz : Ext w w1 := (HY.out.alloc _).turned hgrow1 HB.out
          have HO := Lib.hid hown1
          clear hown1 hgrow1 HM HY
          go_wp2
          go_roundw
          case rel => exact ⟨j + 1, _, by omega, by go_num, HO, HP, hz⟩
          case measure => simp [intOf]; omega
        · obtain rfl : j = R.length := by omega
          have HD' : Hid (MapOf D (tillT T (k + 1) 0) (rowF n T U)) := Lib.hid (HD.out.congr (fun p q => by rw [tillT_next hlt, ← HR.out]) (fun _ _ _ => rfl))
          have HM' : Hid (RowMap wr (w.heap.size + 1) (6 * (k + 1)) D) := Lib.hid (HM.out.mono (by omega))
          clear HD HM
          go_wp2
          go_roundw
          case rel => exact ⟨k + 1, D, by omega, by go_num, HM', HD', hy⟩
          case measure => simp [intOf]; omega
    · obtain rfl : k = T.length := by omega
      have HD' : Hid (MapOf D (inT T) (rowF n T U)) := Lib.hid (HD.out.congr (fun p q => (tillT_all p q).symm) (fun _ _ _ => rfl))
      have HM' : Hid (RowMap wr (w.heap.size + 1) 30 D) := Lib.hid (HM.out.mono (by omega))
      clear HD HM
      go_wp2
      go_ret
      exact ⟨_, D, rfl, HM'.out, HD'.out, by omega, hx⟩

end Go.Proofs.Ytkhdgmgacfhcgaa

namespace Go.Proofs.Ytkhdgmgacfhcgaa
open Go.RowKit
set_option linter.unusedVariables false

def bothTo (k f t k' f' t' : Int) (n : Nat) : Bool := (List.range n).any fun (j : Nat) => touchB k f t (j : Int) && touchB k' f' t' (j : Int)
theorem bothTo_succ (k f t k' f' t' : Int) (n : Nat) : bothTo k f t k' f' t' (n + 1) = (bothTo k f t k' f' t' n || (touchB k f t (n : Int) && touchB k' f' t' (n : Int))) := by
  simp [bothTo, List.range_succ]
theorem bothTo_all {k i f t a k' i' f' t' a' : Int} (hg : goodB k i f t a = true) (hg' : goodB k' i' f' t' a' = true) : interB k f t k' f' t' = bothTo k f t k' f' t' 4 := by
  unfold interB
  rw [← touchedTo_all hg, ← touchedTo_all hg']
  have r4 : List.range 4 = [0, 1, 2, 3] := rfl
  unfold touchedTo bothTo interL
  rw [r4]
  simp only [List.filter_cons, List.filter_nil, List.any_cons, List.any_nil]
  generalize touchB k f t ((0 : Nat) : Int) = a0
  generalize touchB k f t ((1 : Nat) : Int) = a1
  generalize touchB k f t ((2 : Nat) : Int) = a2
  generalize touchB k f t ((3 : Nat) : Int) = a3
  generalize touchB k' f' t' ((0 : Nat) : Int) = b0
  generalize touchB k' f' t' ((1 : Nat) : Int) = b1
  generalize touchB k' f' t' ((2 : Nat) : Int) = b2
  generalize touchB k' f' t' ((3 : Nat) : Int) = b3
  revert a0 a1 a2 a3 b0 b1 b2 b3
  decide

end Go.Proofs.Ytkhdgmgacfhcgaa

namespace Go.Proofs.Ytkhdgmgacfhcgaa
open Go.RowKit Go.Maps
set_option linter.unusedVariables false

/-- What is left of all instances while the map is swept: those that are settled, and those still to come. -/
def sweptT (T : List (List RowD)) (left : Lit → Bool) (p q : Nat) : Bool := inT T p q && (instCom T p q || left (kl (p : Int) ((q : Int) + 1)))
theorem inT_low {T : List (List RowD)} (hT : T.length ≤ 5) (hR6 : ∀ R ∈ T, R.length ≤ 6) {p q : Nat} (h : inT T p q = true) : p ≤ 4 ∧ q ≤ 5 := by
  obtain ⟨hp, hq⟩ := inT_of h
  have := hR6 _ (List.getElem_mem hp)
  omega
theorem instCom_inT {T : List (List RowD)} {p q : Nat} (h : instCom T p q = true) : inT T p q = true := by
  obtain ⟨hp, hq, _⟩ := instCom_lt h
  exact inT_mk hp hq
theorem instCom_row {n : Int} {T : List (List RowD)} {p q : Nat} (h : inT T p q = true) : instCom T p q = ((rowOf n T p q).st == 3) := by
  obtain ⟨hp, hq⟩ := inT_of h
  rw [instCom_in hp hq, rowOf_in hp hq]
theorem same_kl {p q p' q' : Nat} (h1 : p ≤ 1048576 ∧ q ≤ 1048576) (h2 : p' ≤ 1048576 ∧ q' ≤ 1048576) : (kl (p : Int) ((q : Int) + 1)).sameKey (kl (p' : Int) ((q' : Int) + 1)) = (decide (p = p') && decide (q = q')) := by
  by_cases e : p = p' ∧ q = q'
  · obtain ⟨rfl, rfl⟩ := e
    rw [WideAt.sameKey_self (instKeyed.key (keyOf_inst (wf_small (by omega) (by omega)) (wf_small (by omega) (by omega))))]
    simp
  · rw [Maps.sameKey_ne (kl_ne h1 h2 e)]
    symm
    simpa using e

/-- One instance has come: it is settled. -/
theorem swept_stays {T : List (List RowD)} (hT : T.length ≤ 5) (hR6 : ∀ R ∈ T, R.length ≤ 6) {left : Lit → Bool} {p q : Nat} (hi : inT T p q = true) (hc : instCom T p q = true) (p' q' : Nat) :
    sweptT T (fun z => left z && !z.sameKey (kl (p : Int) ((q : Int) + 1))) p' q' = sweptT T left p' q' := by
  unfold sweptT
  cases hi' : inT T p' q' with
  | false => rfl
  | true =>
    have h1 := inT_low hT hR6 hi
    have h2 := inT_low hT hR6 hi'
    simp only [Bool.true_and]
    rw [same_kl (by omega) (by omega)]
    by_cases e : p' = p ∧ q' = q
    · obtain ⟨rfl, rfl⟩ := e
      rw [hc]; rfl
    · have : (decide (p' = p) && decide (q' = q)) = false := by simpa using e
      rw [this]
      simp
/-- .. it is not. -/
theorem swept_goes {T : List (List RowD)} (hT : T.length ≤ 5) (hR6 : ∀ R ∈ T, R.length ≤ 6) {left : Lit → Bool} {p q : Nat} (hi : inT T p q = true) (hc : instCom T p q = false) (p' q' : Nat) :
    sweptT T (fun z => left z && !z.sameKey (kl (p : Int) ((q : Int) + 1))) p' q' = (sweptT T left p' q' && !(decide (p' = p) && decide (q' = q))) := by
  unfold sweptT
  cases hi' : inT T p' q' with
  | false => rfl
  | true =>
    have h1 := inT_low hT hR6 hi
    have h2 := inT_low hT hR6 hi'
    simp only [Bool.true_and]
    rw [same_kl (by omega) (by omega)]
    by_cases e : p' = p ∧ q' = q
    · obtain ⟨rfl, rfl⟩ := e
      rw [hc]; simp
    · have : (decide (p' = p) && decide (q' = q)) = false := by simpa using e
      rw [this]
      simp

theorem swept_start {T : List (List RowD)} {D : DataW Value} {f : Nat → Nat → Value} (h : MapOf D (inT T) f) (p q : Nat) : sweptT T (Maps.has D) p q = inT T p q := by
  unfold sweptT
  cases hi : inT T p q with
  | false => rfl
  | true => rw [h.has p q hi]; simp
theorem swept_end {T : List (List RowD)} {left : Lit → Bool} (h : ∀ l, left l = false) (p q : Nat) : instCom T p q = sweptT T left p q := by
  unfold sweptT
  rw [h]
  cases hi : instCom T p q with
  | false => simp
  | true => rw [instCom_inT hi]; rfl
theorem swept_in {T : List (List RowD)} {left : Lit → Bool} {p q : Nat} (h : sweptT T left p q = true) : inT T p q = true := by
  unfold sweptT at h
  rw [Bool.and_eq_true] at h
  exact h.1

set_option maxHeartbeats 4000000 in
set_option maxRecDepth 100000 in
theorem committedIn_any (n : Int) (u : Value) (T : List (List RowD)) (U : Nat → Nat → Value) (w : World) (hu : TabAt w u T U) (hT : T.length ≤ 5) (hR6 : ∀ R ∈ T, R.length ≤ 6) :
    Calls Try.prog 32 #[.agg #[.int .i64 n, u]] w (NewRowMap T (instCom T) (rowF n T U) w) := by
  have HL := Lib.hid (hu.lists n)
  have HU := Lib.hid (hu.ext (Ext.alloc1 w (.cells #[.int .i64 n, u] 31)))
  have H5 := Lib.hid hT
  have H6 := Lib.hid hR6
  obtain ⟨au, cu, rfl, hlu, _, _⟩ := hu
  unfold maxLen at hlu
  clear hR6
  go_enter Try.func32, Try.ntmps32
  go_wp2_with fail
  refine (rowsIn_any n _ T U _ HU.out hT H6.out).mono ?_
  rintro e w1 ⟨B, D0, rfl, m1, d1, hb1, x1⟩
  have hx1 : Ext w w1 := (Ext.alloc1 _ _).trans x1
  have hB : w.heap.size ≤ B := Nat.le_trans (Ext.alloc1 w (.cells #[.int .i64 n, .slice au T.length cu] 31)).size hb1
  have M1 := Lib.hid m1
  have D1 := Lib.hid d1
  have X1 := Lib.hid hx1
  clear m1 d1 hx1 x1 hb1
  go_wp2_with (first | (at_range; refine wpList_range_own _ rfl _ 54 rfl 64 53 instKeyed Try.underlying54 asIs B 30 D0 rfl M1.out ?_; intro w2 hrg2 hg2 hs2) | go_in)
  go_frame
  have X2 := Lib.hid (X1.out.trans (ext_of_grown hg2))
  have R2 := Lib.hid hrg2
  have X1' := X1.out
  clear hrg2 hg2 hs2 M1 X1
  obtain ⟨r, hr⟩ : ∃ r, r = w1.heap.size := ⟨_, rfl⟩
  rw [← hr] at R2 ⊢
  have hrb : w.heap.size ≤ r := by rw [hr]; exact X1'.size
  clear hr X1'
  go_loopw [4, 5] (fun _ _ wr => ∃ (D : DataW Value) (left : Lit → Bool) (cnt : Nat), Hid (RowRange wr B r 30 D left cnt) ∧ Hid (MapOf D (sweptT T left) (rowF n T U)) ∧ Hid (Ext w wr)) (fun _ _ wr => wr.rangeLeft B r)
  case atStart => exact ⟨D0, _, _, R2, Lib.hid (D1.out.congr (fun p q => swept_start D1.out p q) (fun _ _ _ => rfl)), X2⟩
  case round =>
    clear R2 D1 X2
    obtain ⟨D, left, cnt, R, M, X⟩ := hrel
    go_wp2_with (first | (at_next; refine wpList_next_inst _ rfl _ rfl B r 30 D left cnt _ _ rfl R.out M.out ?_ ?_) | go_in)
    · intro hl
      have M' := Lib.hid (M.out.congr (S' := instCom T) (f' := rowF n T U) (fun p q => swept_end hl p q) (fun _ _ _ => rfl))
      have R' := Lib.hid R.out.owns
      clear M R
      go_wp2
      go_ret
      exact ⟨_, D, rfl, R'.out, M'.out, hB, X.out⟩
    · intro p q w3 cnt3 hS hlk hrg3 hlt hg3 hs3 hen
      have hi := swept_in hS
      have hx3 : Ext w w3 := X.out.turned hg3 hrb
      obtain ⟨ay, cy, hU, _⟩ := HL.out p q hi
      unfold rowF rowV at hen ⊢
      rw [hU] at hen ⊢
      have R3 := Lib.hid hrg3
      have X3 := Lib.hid hx3
      have hcom : instCom T p q = ((rowOf n T p q).st == 3) := instCom_row hi
      obtain ⟨d, hd⟩ : ∃ d, d = rowOf n T p q := ⟨_, rfl⟩
      rw [← hd] at hen hcom ⊢
      have hlow := inT_low hT H6.out hi
      have HI := Lib.hid hi
      have HLT := Lib.hid hlt
      have HRO := Lib.hid R.out
      clear hrg3 hx3 hg3 hs3 hlk hd hU R X hS hi hlt
      cases hst : (d.st == 3) with
      | true =>
        rw [hst] at hcom
        have M3 := Lib.hid (M.out.congr (S' := sweptT T (fun z => left z && !z.sameKey (kl (p : Int) ((q : Int) + 1)))) (f' := rowF n T U) (fun p' q' => swept_stays hT H6.out HI.out hcom p' q') (fun _ _ _ => rfl))
        have h3 : d.st = 3 := by simpa using hst
        have ns : (d.st != 3) = false := by simp [h3]
        clear hcom M hst h3
        go_wp2
        go_roundw
        case rel => exact ⟨D, _, _, Lib.hid (((R3.out).alloc _).alloc _), M3, Lib.hid ((X3.out.alloc _).alloc _)⟩
        case measure => rw [((R3.out.alloc _).alloc _).left_eq, HRO.out.left_eq]; exact HLT.out
      | false =>
        rw [hst] at hcom
        have M3 := Lib.hid ((M.out.del (p := p) (q := q) (by omega)).congr (S' := sweptT T (fun z => left z && !z.sameKey (kl (p : Int) ((q : Int) + 1)))) (f' := rowF n T U) (fun p' q' => swept_goes hT H6.out HI.out hcom p' q') (fun _ _ _ => rfl))
        have h3 : ¬ d.st = 3 := by simpa using hst
        have ns : (d.st != 3) = true := by simp [h3]
        clear hcom M hst h3
        go_wp2_with (first | (at_delete; refine wpList_delete_ranges _ rfl _ _ 54 64 rfl 53 instKeyed Try.underlying54 asIs B r 30 D _ _ rfl ((R3.out.alloc _).alloc _) _ (kl (p : Int) ((q : Int) + 1)) rfl (keyOf_inst (wf_small (by omega) (by omega)) (wf_small (by omega) (by omega))) ?_; intro w4 cnt4 hrg4 hle ht4; go_frame) | go_in)
        rw [Maps.strike_twice] at hrg4
        have R4 := Lib.hid hrg4
        have X4 : Hid (Ext w w4) := Lib.hid (((X3.out.alloc _).alloc _).turned ht4.grown hB)
        have HLE := Lib.hid hle
        clear hrg4 ht4 hle R3 X3
        go_wp2
        go_roundw
        case rel => exact ⟨_, _, _, R4, M3, X4⟩
        case measure => rw [R4.out.left_eq, HRO.out.left_eq]; exact Nat.lt_of_le_of_lt HLE.out HLT.out

end Go.Proofs.Ytkhdgmgacfhcgaa

namespace Go.Proofs.Ytkhdgmgacfhcgaa
open Go.RowKit Go.Maps
set_option linter.unusedVariables false

end Go.Proofs.Ytkhdgmgacfhcgaa

namespace Go.Proofs.Ytkhdgmgacfhcgaa
open Go.RowKit
set_option linter.unusedVariables false

/-- A world that is W with new blocks. -/
def ExtOf (W : World) := {w' : World // Ext W w'}
instance (W : World) : Nonempty (ExtOf W) := ⟨⟨W, Ext.refl W⟩⟩
theorem ExtOf.cell {W : World} (e : ExtOf W) {a : Addr} {v : Value} (h : W.cell? a = some v) : e.1.cell? a = some v := Ext.cell e.2 h
theorem wp_region_ext_lit {P : Program} {id : Nat} {Q : Exit → Act → World → Prop} {a : Act} {w : World} {l : List Oper} (hm : P.follows .mixedOrders = true) (hB : Region.lexB .any l.toArray = true)
    (h : wpQuiet P l.toArray (fun w' => ∃ e : ExtOf w, w' = e.1) (fun a' => ∀ w', (∃ e : ExtOf w, w' = e.1) → Q .normal a' w') l a) : (Code.region id l.toArray true).wp P Q a w :=
  wp_region_quiet (C := fun w' => ∃ e : ExtOf w, w' = e.1) hm hB ⟨⟨w.drew, Ext.drew (Ext.refl w)⟩, rfl⟩ (by simpa using h)
/-- A callee's contract, met in such a world. -/
theorem Calls.ext_of {P : Program} {f : FuncId} {args : Array Value} {W : World} {v : Value} (e : ExtOf W)
    (h : Calls P f args e.1 fun x w' => x = .returned v ∧ Ext e.1 w') : Calls P f args e.1 fun x w'' => x = .returned v ∧ ∃ e' : ExtOf W, w'' = e'.1 :=
  h.mono fun _ w' ⟨he, hx⟩ => ⟨he, ⟨w', e.2.trans hx⟩, rfl⟩

end Go.Proofs.Ytkhdgmgacfhcgaa

namespace Go.Proofs.Ytkhdgmgacfhcgaa
open Go.RowKit Go.Maps
set_option linter.unusedVariables false

/-- All instances that have come conflict with none. -/
def DoneH (n : Int) (T : List (List RowD)) (left : Lit → Bool) : Prop := ∀ x ∈ insts T, left (kl (x.1 : Int) ((x.2 : Int) + 1)) = false → ∀ y ∈ insts T, x ≠ y → cfl n T x y = false
/-- .. those that have come do not conflict with this one. -/
def DoneI (n : Int) (T : List (List RowD)) (x : Nat × Nat) (left : Lit → Bool) : Prop := ∀ y ∈ insts T, left (kl (y.1 : Int) ((y.2 : Int) + 1)) = false → x ≠ y → cfl n T x y = false

theorem left_other {left : Lit → Bool} {x : Nat × Nat} {p q : Nat} (h1 : x.1 ≤ 1048576 ∧ x.2 ≤ 1048576) (h2 : p ≤ 1048576 ∧ q ≤ 1048576) (e : ¬ x = (p, q))
    (h : (fun z : Lit => left z && !z.sameKey (kl (p : Int) ((q : Int) + 1))) (kl (x.1 : Int) ((x.2 : Int) + 1)) = false) : left (kl (x.1 : Int) ((x.2 : Int) + 1)) = false := by
  have h' : (left (kl (x.1 : Int) ((x.2 : Int) + 1)) && !(kl (x.1 : Int) ((x.2 : Int) + 1)).sameKey (kl (p : Int) ((q : Int) + 1))) = false := h
  rw [same_kl h1 h2] at h'
  have : (decide (x.1 = p) && decide (x.2 = q)) = false := by
    simp only [Bool.and_eq_false_iff, decide_eq_false_iff_not]
    by_cases e1 : x.1 = p
    · exact .inr (fun e2 => e (Prod.ext e1 e2))
    · exact .inl e1
  rw [this] at h'
  simpa using h'
theorem goodTab_both {n : Int} {T : List (List RowD)} (h : goodTab n T = true) : T.length ≤ 5 ∧ ∀ R ∈ T, R.length ≤ 6 := by
  obtain ⟨h1, h2, h3⟩ := goodTab_of h
  refine ⟨?_, fun R hR => (h3 R hR).1⟩
  rcases isGrp_of h1 with e | e <;> omega
theorem goodRow_cmd' {n : Int} {r : RowD} (h : goodRow n r = true) : goodB r.k r.i r.f r.t r.a = true ∧ ((r.st == 0) = true → r.k = 0) := by
  unfold goodRow at h
  simp only [Bool.and_eq_true] at h
  have h2 := h.2
  split at h2
  · unfold emptyB zeroC at h2
    simp only [Bool.and_eq_true, beq_iff_eq] at h2
    obtain ⟨⟨_, e0, e1, e2, e3, e4⟩, _⟩ := h2
    rw [e0, e1, e2, e3, e4]
    exact ⟨rfl, fun _ => rfl⟩
  · rename_i hst
    unfold fullB at h2
    simp only [Bool.and_eq_true] at h2
    exact ⟨h2.1, fun h => absurd h (by simpa using hst)⟩
/-- A settled row of a good table: its command is good, its list has an entry for each replica. -/
theorem com_row {n : Int} {T : List (List RowD)} (h : goodTab n T = true) {p q : Nat} (hc : instCom T p q = true) :
    goodB (rowOf n T p q).k (rowOf n T p q).i (rowOf n T p q).f (rowOf n T p q).t (rowOf n T p q).a = true ∧ (rowOf n T p q).l.length = T.length ∧ p < T.length ∧ q ≤ 5 := by
  obtain ⟨hp, hq, hs⟩ := instCom_lt hc
  have h1 := goodTab_row h hp hq
  have h2 := goodTab_of h
  have h3 := (h2.2.2 _ (List.getElem_mem hp)).1
  rw [rowOf_in hp hq]
  refine ⟨?_, by omega, hp, by omega⟩
  exact (goodRow_cmd' h1.1).1
/-- Two integers in a block. -/
def TwoAt (w : World) (b : Nat) (x y : Int) : Prop := w.cell? ⟨b, 0, none⟩ = some (.int .i64 x) ∧ w.cell? ⟨b, 1, none⟩ = some (.int .i64 y)
theorem TwoAt.ext {w w' : World} {b : Nat} {x y : Int} (h : TwoAt w b x y) (e : Ext w w') : TwoAt w' b x y := ⟨e.cell h.1, e.cell h.2⟩
theorem two_new (w : World) (x y : Int) (T T' : TypeId) (C : Array Value) : TwoAt ((w.alloc (.cells #[.int .i64 x, .int .i64 y] T)).alloc (.cells C T')) w.heap.size x y := by
  refine ⟨?_, ?_⟩ <;> go_simp
theorem row_new (w : World) (o : Obj) (T : TypeId) (r : RowD) (u : Value) : RowAt ((w.alloc o).alloc (.cells #[.int .i64 r.b, .int .i64 r.v, .int .i64 r.st, .int .i64 r.k, .int .i64 r.i, .int .i64 r.f, .int .i64 r.t, .int .i64 r.a, .int .i64 r.s, u] T)) (w.heap.size + 1) r u := by
  have h := rowAt_new (w.alloc o) T r u
  simpa using h

end Go.Proofs.Ytkhdgmgacfhcgaa

namespace Go.Proofs.Ytkhdgmgacfhcgaa
open Go.RowKit
set_option linter.unusedVariables false

theorem tab_res (w : World) (n : Int) (u : Value) (T T' : TypeId) :
    AttrAt ((w.alloc (.cells #[.int .i64 n, u] T)).alloc (.cells #[.int .i64 0, .int .i64 0, .int .i64 0, .int .i64 0, .int .i64 0, .int .i64 0, .int .i64 0, .int .i64 0, .int .i64 0, .slice none 0 0] T')) w.heap.size n u ∧
    RowAt ((w.alloc (.cells #[.int .i64 n, u] T)).alloc (.cells #[.int .i64 0, .int .i64 0, .int .i64 0, .int .i64 0, .int .i64 0, .int .i64 0, .int .i64 0, .int .i64 0, .int .i64 0, .slice none 0 0] T')) (w.heap.size + 1) ⟨0, 0, 0, 0, 0, 0, 0, 0, 0, []⟩ (.slice none 0 0) ∧
      FreeAt ((w.alloc (.cells #[.int .i64 n, u] T)).alloc (.cells #[.int .i64 0, .int .i64 0, .int .i64 0, .int .i64 0, .int .i64 0, .int .i64 0, .int .i64 0, .int .i64 0, .int .i64 0, .slice none 0 0] T')) (w.heap.size + 1) := by
  refine ⟨⟨?_, ?_⟩, ⟨?_, ?_, ?_, ?_, ?_, ?_, ?_, ?_, ?_, ?_⟩, ⟨?_, ?_, ?_, ?_, ?_, ?_, ?_, ?_, ?_, ?_⟩⟩ <;> go_simp

set_option maxHeartbeats 2000000 in
set_option maxRecDepth 100000 in
theorem l4At_any (n : Int) (u : Value) (T : List (List RowD)) (p q : Nat) (w : World) (hu : Rowzz w u T) (hg : goodTab n T = true) (hp : p < T.length) (hq : q ≤ 5) :
    Calls Try.prog 30 #[.agg #[.int .i64 n, u], .int .i64 p, .int .i64 ((q : Int) + 1)] w (NewRow (rowOf n T p q) w) := by
  have hu0 := hu
  obtain ⟨au, cu, rfl, hlu, _, hcu⟩ := hu
  unfold maxLen at hlu
  obtain ⟨bu, ou, rfl, du⟩ := hcu (by omega)
  obtain ⟨x, hx1, ix⟩ := du p hp
  obtain ⟨R, hR⟩ : ∃ R, R = T[p] := ⟨_, rfl⟩
  rw [← hR] at ix
  obtain ⟨wb, hwb⟩ : ∃ wb, wb = (w.alloc (.cells #[.int .i64 n, .slice (some ⟨bu, ou, none⟩) T.length cu] 31)).alloc (.cells #[.int .i64 0, .int .i64 0, .int .i64 0, .int .i64 0, .int .i64 0, .int .i64 0, .int .i64 0, .int .i64 0, .int .i64 0, .slice none 0 0] 53) := ⟨_, rfl⟩
  have ho := tab_res w n (.slice (some ⟨bu, ou, none⟩) T.length cu) 31 53
  rw [← hwb] at ho
  have xb : Ext w wb := by rw [hwb]; exact ((Ext.refl w).alloc _).alloc _
  have sb : w.heap.size + 2 ≤ wb.heap.size := by rw [hwb]; simp
  have gx := xb.cell hx1
  have ixb := ix.ext xb
  obtain ⟨ax, cx, rfl, hlx, _, hcx⟩ := ixb
  unfold maxLen at hlx
  have hgrp := (goodTab_of hg).1
  by_cases hqt : q < R.length
  · have hqt' : q < T[p].length := by rw [← hR]; exact hqt
    have hrow := goodTab_row hg hp hqt'
    have e : rowOf n T p q = R[q] := by rw [rowOf_in hp hqt']; simp only [hR]
    rw [e]
    obtain ⟨d, hd⟩ : ∃ d, d = R[q] := ⟨_, rfl⟩
    obtain ⟨bx, ox, rfl, dx⟩ := hcx (by omega)
    obtain ⟨y, hy1, iy⟩ := dx q hqt
    rw [← hd] at hy1 iy ⊢
    have hdl : d.l.length ≤ 1048576 := by have : d = T[p][q] := by rw [hd]; simp only [hR]
                                          rw [this]; omega
    have HWB := Lib.hid hwb
    have HO := Lib.hid ho
    have IY := Lib.hid iy
    have SB := Lib.hid sb
    obtain ⟨g0, g1, g2, g3, g4, g5, g6, g7, g8, g9⟩ := hy1
    obtain ⟨t0, t1⟩ := ho.1
    have hq0 : (q : Int) ≤ 5 := by omega
    have hq1 : (q : Int) + 1 ≤ R.length := by omega
    rw [hwb] at g0 g1 g2 g3 g4 g5 g6 g7 g8 g9 gx t0 t1
    clear hwb ho hu0 hcu du hx1 ix hR hcx dx iy hd hrow hqt' e hg hgrp sb
    go_enter Try.func30, Try.ntmps30
    go_wp2_with fail
    rw [← HWB.out]
    refine (l4OwnRow_any d y _ IY.out hdl).mono ?_
    rintro e w1 ⟨v, rfl, f1, x1⟩
    have hx := xb.trans x1
    obtain ⟨o0, o1, o2, o3, o4, o5, o6, o7, o8, o9⟩ := HO.out.2.1.ext x1
    obtain ⟨z0, z1, z2, z3, z4, z5, z6, z7, z8, z9⟩ := HO.out.2.2.ext (by have := SB.out; omega) x1
    obtain ⟨ay, cy, rfl⟩ := f1.form
    have F := Lib.hid f1
    clear f1 x1 xb g0 g1 g2 g3 g4 g5 g6 g7 g8 g9 gx t0 t1
    go_wp2
    refine bodyPost_ret (v := .agg #[.int .i64 d.b, .int .i64 d.v, .int .i64 d.st, .int .i64 d.k, .int .i64 d.i, .int .i64 d.f, .int .i64 d.t, .int .i64 d.a, .int .i64 d.s, .slice ay d.l.length cy]) (by simp [results, Try.results30, go_sem, o0, o1, o2, o3, o4, o5, o6, o7, o8, o9]) rfl ⟨_, rfl, ?_, ?_⟩
    · exact ((((((((((F.out.set _ _ _ (by have := SB.out; omega)).set _ _ _ (by have := SB.out; omega)).set _ _ _ (by have := SB.out; omega)).set _ _ _ (by have := SB.out; omega)).set _ _ _ (by have := SB.out; omega)).set _ _ _ (by have := SB.out; omega)).set _ _ _ (by have := SB.out; omega)).set _ _ _ (by have := SB.out; omega)).set _ _ _ (by have := SB.out; omega)).set _ _ _ (by have := SB.out; omega)).more (by have := SB.out; omega)
    · exact (((((((((hx.setc (by dsimp only; omega)).setc (by dsimp only; omega)).setc (by dsimp only; omega)).setc (by dsimp only; omega)).setc (by dsimp only; omega)).setc (by dsimp only; omega)).setc (by dsimp only; omega)).setc (by dsimp only; omega)).setc (by dsimp only; omega)).setc (by dsimp only; omega)
  · have e : rowOf n T p q = emptyR n := rowOf_out hp (by rw [← hR]; omega)
    rw [e]
    obtain ⟨L, hL⟩ : ∃ L, L = noneL n := ⟨_, rfl⟩
    have hc := fun W => l3None_any n W hgrp
    have hLE : emptyR n = ⟨0, 0, 0, 0, 0, 0, 0, 0, 0, L⟩ := by rw [hL]; rfl
    rw [← hL] at hc
    rw [hLE]
    have HC := Lib.hid hc
    have HWB := Lib.hid hwb
    have HO := Lib.hid ho
    have SB := Lib.hid sb
    obtain ⟨t0, t1⟩ := ho.1
    have hq0 : (q : Int) ≤ 5 := by omega
    have hq1 : (R.length : Int) < (q : Int) + 1 := by omega
    rw [hwb] at gx t0 t1
    clear hwb ho hu0 hcu du hx1 ix hR hcx e hg hgrp sb hL hc hLE hqt
    go_enter Try.func30, Try.ntmps30
    go_wp2_with fail
    rw [← HWB.out]
    refine (HC.out _).mono ?_
    rintro e w1 ⟨v, rfl, f1, x1⟩
    have hx := xb.trans x1
    obtain ⟨o0, o1, o2, o3, o4, o5, o6, o7, o8, o9⟩ := HO.out.2.1.ext x1
    obtain ⟨z0, z1, z2, z3, z4, z5, z6, z7, z8, z9⟩ := HO.out.2.2.ext (by have := SB.out; omega) x1
    obtain ⟨ay, cy, rfl⟩ := f1.form
    have F := Lib.hid f1
    clear f1 x1 xb gx t0 t1
    go_wp2
    refine bodyPost_ret (v := .agg #[.int .i64 0, .int .i64 0, .int .i64 0, .int .i64 0, .int .i64 0, .int .i64 0, .int .i64 0, .int .i64 0, .int .i64 0, .slice ay L.length cy]) (by simp [results, Try.results30, go_sem, o0, o1, o2, o3, o4, o5, o6, o7, o8, o9]) rfl ⟨_, rfl, ?_, ?_⟩
    · exact ((((((((((F.out.set _ _ _ (by have := SB.out; omega)).set _ _ _ (by have := SB.out; omega)).set _ _ _ (by have := SB.out; omega)).set _ _ _ (by have := SB.out; omega)).set _ _ _ (by have := SB.out; omega)).set _ _ _ (by have := SB.out; omega)).set _ _ _ (by have := SB.out; omega)).set _ _ _ (by have := SB.out; omega)).set _ _ _ (by have := SB.out; omega)).set _ _ _ (by have := SB.out; omega)).more (by have := SB.out; omega)
    · exact (((((((((hx.setc (by dsimp only; omega)).setc (by dsimp only; omega)).setc (by dsimp only; omega)).setc (by dsimp only; omega)).setc (by dsimp only; omega)).setc (by dsimp only; omega)).setc (by dsimp only; omega)).setc (by dsimp only; omega)).setc (by dsimp only; omega)).setc (by dsimp only; omega)

end Go.Proofs.Ytkhdgmgacfhcgaa

namespace Go.Proofs.Ytkhdgmgacfhcgaa
open Go.RowKit
set_option linter.unusedVariables false

/-- A block of a row of noughts that may be written. -/
structure OpenRow (w : World) (b : Nat) : Prop where
  row : RowAt w b zeroR (.slice none 0 0)
  free : FreeAt w b
  lt : b < w.heap.size
theorem OpenRow.ext {w w' : World} {b : Nat} (h : OpenRow w b) (e : Ext w w') : OpenRow w' b := ⟨h.row.ext e, h.free.ext h.lt e, Nat.lt_of_lt_of_le h.lt e.size⟩
theorem openRow_new (w : World) (T : TypeId) : OpenRow (w.alloc (.cells #[.int .i64 0, .int .i64 0, .int .i64 0, .int .i64 0, .int .i64 0, .int .i64 0, .int .i64 0, .int .i64 0, .int .i64 0, .slice none 0 0] T)) w.heap.size := by
  refine ⟨rowAt_new w T zeroR _, ⟨?_, ?_, ?_, ?_, ?_, ?_, ?_, ?_, ?_, ?_⟩, by simp⟩ <;> go_simp

abbrev put10 (W : World) (b : Nat) (d : RowD) (u : Value) : World :=
  (((((((((W.setCell ⟨b, 0, none⟩ (.int .i64 d.b)).setCell ⟨b, 1, none⟩ (.int .i64 d.v)).setCell ⟨b, 2, none⟩ (.int .i64 d.st)).setCell ⟨b, 3, none⟩ (.int .i64 d.k)).setCell ⟨b, 4, none⟩ (.int .i64 d.i)).setCell ⟨b, 5, none⟩ (.int .i64 d.f)).setCell ⟨b, 6, none⟩ (.int .i64 d.t)).setCell ⟨b, 7, none⟩ (.int .i64 d.a)).setCell ⟨b, 8, none⟩ (.int .i64 d.s)).setCell ⟨b, 9, none⟩ u

set_option maxHeartbeats 4000000 in
theorem put10_row {W : World} {b : Nat} {d : RowD} {u : Value} (h : OpenRow W b) : RowAt (put10 W b d u) b d u := by
  obtain ⟨o0, o1, o2, o3, o4, o5, o6, o7, o8, o9⟩ := h.row
  unfold put10
  refine ⟨?_, ?_, ?_, ?_, ?_, ?_, ?_, ?_, ?_, ?_⟩ <;> simp [go_sem, o0, o1, o2, o3, o4, o5, o6, o7, o8, o9]
theorem put10_fresh {W : World} {b B : Nat} {d : RowD} {u : Value} {l : List Int} (h : Fresh B W u l) (hb : b < B) : Fresh B (put10 W b d u) u l := by
  unfold put10
  exact (((((((((h.set _ _ _ hb).set _ _ _ hb).set _ _ _ hb).set _ _ _ hb).set _ _ _ hb).set _ _ _ hb).set _ _ _ hb).set _ _ _ hb).set _ _ _ hb).set _ _ _ hb
theorem put10_ext {W w0 : World} {b : Nat} {d : RowD} {u : Value} (h : Ext w0 W) (hb : w0.heap.size ≤ b) : Ext w0 (put10 W b d u) := by
  unfold put10
  exact (((((((((h.setc hb).setc hb).setc hb).setc hb).setc hb).setc hb).setc hb).setc hb).setc hb).setc hb

end Go.Proofs.Ytkhdgmgacfhcgaa

namespace Go.Proofs.Ytkhdgmgacfhcgaa
open Go.RowKit Go.Maps
set_option linter.unusedVariables false

theorem pairs_len (T : List (List RowD)) : ((insts T).map pairOf).length = (insts T).length := by simp
theorem pair_at {w : World} {v : Value} {x : Nat × Nat} (h : Ints w v (pairOf x)) : ∃ b o c, v = .slice (some ⟨b, o, none⟩) 2 c ∧ w.cell? ⟨b, o, none⟩ = some (.int .i64 x.1) ∧ w.cell? ⟨b, o + 1, none⟩ = some (.int .i64 ((x.2 : Int) + 1)) := by
  obtain ⟨a, c, rfl, _, _, hc⟩ := h
  have hl : (pairOf x).length = 2 := rfl
  have h0 : 0 < (pairOf x).length := by omega
  have h1 : 1 < (pairOf x).length := by omega
  obtain ⟨b, o, rfl, hk⟩ := hc h0
  have z0 := hk 0 h0
  have z1 := hk 1 h1
  exact ⟨b, o, c, rfl, z0, z1⟩

end Go.Proofs.Ytkhdgmgacfhcgaa
