/- Texts of this proof, part g: words, plain facts, contracts. -/
import Derived.Test.YthnoeknalpnadaaMSameOrdersf
import Derived.Test.YthnoeknalpnadaaMSameOrdersb
import Derived.WalkArith
import Derived.Test.YthnoeknalpnadaaMSameOrdersc
import Derived.Test.YthnoeknalpnadaaMSameOrdersa
import Derived.Test.YthnoeknalpnadaaMSameOrderse
import Derived.Deep.Cut
import Derived.WalkSpells

namespace Go.Proofs.Ythnoeknalpnadaa
open Go.RowKit
set_option linter.unusedVariables false

/-- An instance by its indices: its number is one more than q. -/
def instCom (T : List (List RowD)) (p q : Nat) : Bool := match (T[p]?.getD [])[q]? with
  | some r => r.st == 3
  | none => false
def instsAt (T : List (List RowD)) (p : Nat) : List (Nat × Nat) := ((List.range (T[p]?.getD []).length).filter (instCom T p)).map fun q => (p, q)
def instsTo (T : List (List RowD)) (k : Nat) : List (Nat × Nat) := (List.range k).flatMap (instsAt T)
def insts (T : List (List RowD)) : List (Nat × Nat) := instsTo T T.length
def pairOf (x : Nat × Nat) : List Int := [(x.1 : Int), (x.2 : Int) + 1]
def lexL (x y : Nat × Nat) : Prop := x.1 < y.1 ∨ (x.1 = y.1 ∧ x.2 < y.2)

theorem instCom_in {T : List (List RowD)} {p q : Nat} (hp : p < T.length) (hq : q < T[p].length) : instCom T p q = (T[p][q].st == 3) := by
  unfold instCom
  rw [List.getElem?_eq_getElem hp, Option.getD_some, List.getElem?_eq_getElem hq]
theorem instCom_lt {T : List (List RowD)} {p q : Nat} (h : instCom T p q = true) : ∃ (hp : p < T.length) (hq : q < T[p].length), T[p][q].st = 3 := by
  by_cases hp : p < T.length
  · by_cases hq : q < T[p].length
    · refine ⟨hp, hq, ?_⟩
      rw [instCom_in hp hq] at h
      simpa using h
    · unfold instCom at h
      rw [List.getElem?_eq_getElem hp, Option.getD_some, List.getElem?_eq_none (by omega)] at h
      cases h
  · unfold instCom at h
    rw [show T[p]? = none from List.getElem?_eq_none (by omega)] at h
    simp at h
theorem mem_insts {T : List (List RowD)} {x : Nat × Nat} : x ∈ insts T ↔ instCom T x.1 x.2 = true := by
  unfold insts instsTo instsAt
  constructor
  · intro h
    obtain ⟨p, hp, h⟩ := List.mem_flatMap.1 h
    obtain ⟨q, hq, rfl⟩ := List.mem_map.1 h
    exact (List.mem_filter.1 hq).2
  · intro h
    obtain ⟨hp, hq, hs⟩ := instCom_lt h
    refine List.mem_flatMap.2 ⟨x.1, List.mem_range.2 hp, List.mem_map.2 ⟨x.2, List.mem_filter.2 ⟨List.mem_range.2 ?_, h⟩, rfl⟩⟩
    rw [List.getElem?_eq_getElem hp]
    exact hq
theorem comAt_inst (T : List (List RowD)) (p i : Nat) : comAt p (T[p]?.getD []) i = if instCom T p i then [pairOf (p, i)] else [] := by
  unfold comAt instCom pairOf
  cases h : (T[p]?.getD [])[i]? with
  | none => rfl
  | some r => simp
theorem comTo_insts (T : List (List RowD)) (p m : Nat) : comTo p (T[p]?.getD []) m = ((List.range m).filter (instCom T p)).map fun q => pairOf (p, q) := by
  induction m with
  | zero => simp [comTo]
  | succ m ih =>
    rw [comTo_succ, ih, comAt_inst, List.range_succ, List.filter_append, List.map_append]
    congr 1
    cases h : instCom T p m <;> simp [h]
theorem allTo_insts (T : List (List RowD)) (k : Nat) : allTo T k = (instsTo T k).map pairOf := by
  unfold allTo instsTo
  rw [List.map_flatMap]
  congr 1
  funext p
  unfold instsAt
  rw [comTo_insts, List.map_map]
  rfl
theorem instsTo_lex (T : List (List RowD)) (k : Nat) : (instsTo T k).Pairwise lexL := by
  unfold instsTo
  induction k with
  | zero => simp
  | succ k ih =>
    rw [List.range_succ, List.flatMap_append]
    rw [List.pairwise_append]
    refine ⟨ih, ?_, ?_⟩
    · simp only [List.flatMap_cons, List.flatMap_nil, List.append_nil]
      unfold instsAt
      rw [List.pairwise_map]
      exact (List.pairwise_lt_range.filter _).imp fun h => .inr ⟨rfl, h⟩
    · intro a ha b hb
      obtain ⟨p, hp, ha⟩ := List.mem_flatMap.1 ha
      obtain ⟨q, _, rfl⟩ := List.mem_map.1 ha
      simp only [List.flatMap_cons, List.flatMap_nil, List.append_nil] at hb
      obtain ⟨q', _, rfl⟩ := List.mem_map.1 hb
      exact .inl (List.mem_range.1 hp)
theorem insts_lex (T : List (List RowD)) : (insts T).Pairwise lexL := instsTo_lex T _

/-- The last of a replica's instances on which a row hangs. -/
def depI (r : RowD) (p : Nat) : Int := r.l[p]?.getD 0
/-- Two rows interfere, and neither hangs on the other. -/
def cfl (n : Int) (T : List (List RowD)) (x y : Nat × Nat) : Bool :=
  interB (rowOf n T x.1 x.2).k (rowOf n T x.1 x.2).f (rowOf n T x.1 x.2).t (rowOf n T y.1 y.2).k (rowOf n T y.1 y.2).f (rowOf n T y.1 y.2).t &&
    (decide (depI (rowOf n T x.1 x.2) y.1 < (y.2 : Int) + 1) && decide (depI (rowOf n T y.1 y.2) x.1 < (x.2 : Int) + 1))
theorem interB_comm (k f t k' f' t' : Int) : interB k f t k' f' t' = interB k' f' t' k f t := by
  have h : ∀ l r : List Int, interL l r = true → interL r l = true := fun l r h => by
    unfold interL at h ⊢
    obtain ⟨x, hx, hr⟩ := List.any_eq_true.1 h
    exact List.any_eq_true.2 ⟨x, by simpa [hasI] using hr, by simpa [hasI] using hx⟩
  unfold interB
  rw [Bool.eq_iff_iff]
  exact ⟨h _ _, h _ _⟩
theorem cfl_comm (n : Int) (T : List (List RowD)) (x y : Nat × Nat) : cfl n T x y = cfl n T y x := by
  unfold cfl
  rw [interB_comm]
  congr 1
  exact Bool.and_comm _ _
/-- Of any two settled instances that interfere one hangs on the other. -/
def holdB (n : Int) (T : List (List RowD)) : Bool := (insts T).all fun x => (insts T).all fun y => decide (x = y) || !cfl n T x y
theorem holdB_no {n : Int} {T : List (List RowD)} {x y : Nat × Nat} (hx : x ∈ insts T) (hy : y ∈ insts T) (hne : x ≠ y) (h : cfl n T x y = true) : holdB n T = false := by
  unfold holdB
  rw [List.all_eq_false]
  refine ⟨x, hx, ?_⟩
  simp only [Bool.not_eq_true]
  rw [List.all_eq_false]
  exact ⟨y, hy, by simp [hne, h]⟩
theorem holdB_yes {n : Int} {T : List (List RowD)} (h : ∀ x ∈ insts T, ∀ y ∈ insts T, x ≠ y → cfl n T x y = false) : holdB n T = true := by
  unfold holdB
  rw [List.all_eq_true]
  intro x hx
  rw [List.all_eq_true]
  intro y hy
  by_cases e : x = y
  · simp [e]
  · simp [h x hx y hy e]
/-- .. by their places in the list. -/
theorem holdB_all {n : Int} {T : List (List RowD)} (h : ∀ a b (ha : a < (insts T).length) (hb : b < a), cfl n T ((insts T)[b]) ((insts T)[a]) = false) : holdB n T = true := by
  refine holdB_yes fun x hx y hy hne => ?_
  obtain ⟨a, ha, rfl⟩ := List.getElem_of_mem hx
  obtain ⟨b, hb, rfl⟩ := List.getElem_of_mem hy
  rcases Nat.lt_trichotomy a b with hl | rfl | hl
  · exact h b a hb hl
  · exact absurd rfl hne
  · rw [cfl_comm]; exact h a b ha hl
theorem insts_ne {T : List (List RowD)} {a b : Nat} (ha : a < (insts T).length) (hb : b < a) : (insts T)[b] ≠ (insts T)[a] := by
  have h := List.pairwise_iff_getElem.1 (insts_lex T) b a (by omega) ha hb
  intro e
  rw [e] at h
  unfold lexL at h
  omega

end Go.Proofs.Ythnoeknalpnadaa

namespace Go.Proofs.Ythnoeknalpnadaa
open Go.RowKit Go.Maps
set_option linter.unusedVariables false

theorem wf_small {x : Int} (h0 : 0 ≤ x) (h1 : x ≤ 1048577) : wf64 x := by
  exact WalkArith.wf_i64 (by omega)
/-! ### A table, its lists named -/
def RowsAt (w : World) (x : Value) (R : List RowD) (V : Nat → Value) : Prop :=
  ∃ ao cap, x = .slice ao R.length cap ∧ R.length ≤ maxLen ∧ (R.length ≤ cap ∧ cap ≤ maxLen ∧ (ao = none → cap = 0)) ∧
    (0 < R.length → ∃ b off, ao = some ⟨b, off, none⟩ ∧ ∀ j (h : j < R.length), RowIn w b (off + j * 10) R[j] (V j) ∧ Ints w (V j) R[j].l)
def TabAt (w : World) (u : Value) (T : List (List RowD)) (U : Nat → Nat → Value) : Prop :=
  ∃ ao cap, u = .slice ao T.length cap ∧ T.length ≤ maxLen ∧ (T.length ≤ cap ∧ cap ≤ maxLen ∧ (ao = none → cap = 0)) ∧
    (0 < T.length → ∃ b off, ao = some ⟨b, off, none⟩ ∧ ∀ j (h : j < T.length), ∃ x, w.cell? ⟨b, off + j, none⟩ = some x ∧ RowsAt w x T[j] (U j))
theorem RowsAt.ext {w w' : World} {x : Value} {R : List RowD} {V : Nat → Value} (h : RowsAt w x R V) (e : Ext w w') : RowsAt w' x R V := by
  obtain ⟨ao, cap, hv, hm, hcap, hc⟩ := h
  refine ⟨ao, cap, hv, hm, hcap, fun hp => ?_⟩
  obtain ⟨b, off, ha, hc⟩ := hc hp
  exact ⟨b, off, ha, fun j hj => ⟨(hc j hj).1.ext e, (hc j hj).2.ext e⟩⟩
theorem TabAt.ext {w w' : World} {u : Value} {T : List (List RowD)} {U : Nat → Nat → Value} (h : TabAt w u T U) (e : Ext w w') : TabAt w' u T U := by
  obtain ⟨ao, cap, hv, hm, hcap, hc⟩ := h
  refine ⟨ao, cap, hv, hm, hcap, fun hp => ?_⟩
  obtain ⟨b, off, ha, hc⟩ := hc hp
  refine ⟨b, off, ha, fun j hj => ?_⟩
  obtain ⟨x, hx, hr⟩ := hc j hj
  exact ⟨x, e.cell hx, hr.ext e⟩
theorem rowsAt_of {w : World} {x : Value} {R : List RowD} (h : Rowz w x R) : ∃ V, RowsAt w x R V := by
  obtain ⟨ao, cap, hv, hm, hcap, hc⟩ := h
  by_cases hp : 0 < R.length
  · obtain ⟨b, off, ha, hc⟩ := hc hp
    refine ⟨fun j => if h : j < R.length then Classical.choose (hc j h) else .bool false, ao, cap, hv, hm, hcap, fun _ => ⟨b, off, ha, fun j hj => ?_⟩⟩
    have := Classical.choose_spec (hc j hj)
    simp only [hj, dif_pos]
    exact this
  · exact ⟨fun _ => .bool false, ao, cap, hv, hm, hcap, fun h => absurd h hp⟩
theorem tabAt_of {w : World} {u : Value} {T : List (List RowD)} (h : Rowzz w u T) : ∃ U, TabAt w u T U := by
  obtain ⟨ao, cap, hv, hm, hcap, hc⟩ := h
  by_cases hp : 0 < T.length
  · obtain ⟨b, off, ha, hc⟩ := hc hp
    have hc' : ∀ j (h : j < T.length), ∃ V : Nat → Value, ∃ x, w.cell? ⟨b, off + j, none⟩ = some x ∧ RowsAt w x T[j] V := fun j hj => by
      obtain ⟨x, hx, hr⟩ := hc j hj
      obtain ⟨V, hV⟩ := rowsAt_of hr
      exact ⟨V, x, hx, hV⟩
    refine ⟨fun j => if h : j < T.length then Classical.choose (hc' j h) else fun _ => .bool false, ao, cap, hv, hm, hcap, fun _ => ⟨b, off, ha, fun j hj => ?_⟩⟩
    have := Classical.choose_spec (hc' j hj)
    simp only [hj, dif_pos]
    exact this
  · exact ⟨fun _ _ => .bool false, ao, cap, hv, hm, hcap, fun h => absurd h hp⟩

/-- A row as a value. -/
def rowV (r : RowD) (u : Value) : Value := .agg #[.int .i64 r.b, .int .i64 r.v, .int .i64 r.st, .int .i64 r.k, .int .i64 r.i, .int .i64 r.f, .int .i64 r.t, .int .i64 r.a, .int .i64 r.s, u]
def rowF (n : Int) (T : List (List RowD)) (U : Nat → Nat → Value) (p q : Nat) : Value := rowV (rowOf n T p q) (U p q)
/-- Is an instance in a table's lists? -/
def inT (T : List (List RowD)) (p q : Nat) : Bool := decide (q < (T[p]?.getD []).length)
theorem inT_of {T : List (List RowD)} {p q : Nat} (h : inT T p q = true) : ∃ (hp : p < T.length), q < T[p].length := by
  unfold inT at h
  have h' := of_decide_eq_true h
  by_cases hp : p < T.length
  · rw [List.getElem?_eq_getElem hp] at h'
    exact ⟨hp, h'⟩
  · rw [List.getElem?_eq_none (by omega)] at h'
    simp at h'
theorem inT_mk {T : List (List RowD)} {p q : Nat} (hp : p < T.length) (hq : q < T[p].length) : inT T p q = true := by
  unfold inT
  rw [List.getElem?_eq_getElem hp]
  exact decide_eq_true hq
/-- The lists of all rows read. -/
def Lists (w : World) (n : Int) (T : List (List RowD)) (U : Nat → Nat → Value) : Prop := ∀ p q, inT T p q = true → Ints w (U p q) (rowOf n T p q).l
theorem Lists.ext {w w' : World} {n : Int} {T : List (List RowD)} {U : Nat → Nat → Value} (h : Lists w n T U) (e : Ext w w') : Lists w' n T U := fun p q hi => (h p q hi).ext e
theorem TabAt.lists {w : World} {u : Value} {T : List (List RowD)} {U : Nat → Nat → Value} (n : Int) (h : TabAt w u T U) : Lists w n T U := by
  intro p q hi
  obtain ⟨hp, hq⟩ := inT_of hi
  obtain ⟨_, _, _, _, _, hc⟩ := h
  obtain ⟨b, off, _, hc⟩ := hc (by omega)
  obtain ⟨x, _, hr⟩ := hc p hp
  obtain ⟨_, _, _, _, _, hr⟩ := hr
  obtain ⟨b', off', _, hr⟩ := hr (by omega)
  rw [rowOf_in hp hq]
  exact (hr q hq).2

/-! ### A map that holds values -/
/-- How an element reads here: as itself. -/
def asIs (v : Value) : Option (DataW Value × List MemPlace) := some (.held v, [])

/-- The map holds just the instances of S, each with its value. -/
structure MapOf (D : DataW Value) (S : Nat → Nat → Bool) (f : Nat → Nat → Value) : Prop where
  isMap : Maps.IsMap D
  low : ∀ p q, S p q = true → p ≤ 1048576 ∧ q ≤ 1048576
  has : ∀ p q, S p q = true → Maps.has D (kl p ((q : Int) + 1)) = true
  val : ∀ p q, S p q = true → ∀ z, D.atKey (kl p ((q : Int) + 1)) z = .held (f p q)
  keys : ∀ l, Maps.has D l = true → ∃ p q : Nat, l = kl (p : Int) ((q : Int) + 1) ∧ S p q = true
theorem MapOf.empty (f : Nat → Nat → Value) : MapOf (.map []) (fun _ _ => false) f :=
  ⟨⟨_, rfl⟩, (fun _ _ h => by cases h), (fun _ _ h => by cases h), (fun _ _ h => by cases h), (fun l h => by cases h)⟩
theorem MapOf.congr {D : DataW Value} {S S' : Nat → Nat → Bool} {f f' : Nat → Nat → Value} (h : MapOf D S f) (hs : ∀ p q, S' p q = S p q) (hf : ∀ p q, S p q = true → f' p q = f p q) : MapOf D S' f' :=
  ⟨h.isMap, fun p q e => h.low p q (by rw [← hs]; exact e), fun p q e => h.has p q (by rw [← hs]; exact e), fun p q e z => by rw [hs] at e; rw [hf p q e]; exact h.val p q e z, fun l hl => by
    obtain ⟨p, q, e, hS⟩ := h.keys l hl
    exact ⟨p, q, e, by rw [hs]; exact hS⟩⟩
theorem kl_ne {p q p' q' : Nat} (h1 : p ≤ 1048576 ∧ q ≤ 1048576) (h2 : p' ≤ 1048576 ∧ q' ≤ 1048576) (h : ¬ (p = p' ∧ q = q')) : kl (p : Int) ((q : Int) + 1) ≠ kl (p' : Int) ((q' : Int) + 1) := by
  intro e
  obtain ⟨a, b⟩ := kl_inj (wf_small (by omega) (by omega)) (wf_small (by omega) (by omega)) (wf_small (by omega) (by omega)) (wf_small (by omega) (by omega)) e
  omega
theorem MapOf.put {D : DataW Value} {S : Nat → Nat → Bool} {f : Nat → Nat → Value} (h : MapOf D S f) {p q : Nat} (hl : p ≤ 1048576 ∧ q ≤ 1048576) {v : Value} (hv : f p q = v) :
    MapOf (D.put (kl p ((q : Int) + 1)) (.held v)) (fun p' q' => S p' q' || (decide (p' = p) && decide (q' = q))) f := by
  have hk : WideAt.IsKeyLit (kl p ((q : Int) + 1)) := instKeyed.key (keyOf_inst (wf_small (by omega) (by omega)) (wf_small (by omega) (by omega)))
  have hS : ∀ p' q', (S p' q' || (decide (p' = p) && decide (q' = q))) = true → (p' = p ∧ q' = q) ∨ S p' q' = true := fun p' q' hs => by
    rcases Bool.or_eq_true_iff.1 hs with hs | hs
    · exact .inr hs
    · simp at hs; exact .inl hs
  refine ⟨h.isMap.put _ _, fun p' q' hs => ?_, fun p' q' hs => ?_, fun p' q' hs z => ?_, fun l hl' => ?_⟩
  · rcases hS p' q' hs with ⟨rfl, rfl⟩ | hs
    · exact hl
    · exact h.low p' q' hs
  · by_cases e : p' = p ∧ q' = q
    · obtain ⟨rfl, rfl⟩ := e
      exact Maps.has_put_same h.isMap hk _
    · have hs' := (hS p' q' hs).resolve_left e
      rw [Maps.has_put_other (kl_ne (h.low _ _ hs') hl e)]
      exact h.has p' q' hs'
  · by_cases e : p' = p ∧ q' = q
    · obtain ⟨rfl, rfl⟩ := e
      rw [Maps.atKey_put_same h.isMap hk, hv]
    · have hs' := (hS p' q' hs).resolve_left e
      rw [Maps.atKey_put_other (kl_ne (h.low _ _ hs') hl e)]
      exact h.val p' q' hs' z
  · by_cases e : l = kl p ((q : Int) + 1)
    · refine ⟨p, q, e, ?_⟩
      simp
    · rw [Maps.has_put_other e] at hl'
      obtain ⟨p', q', e', hs⟩ := h.keys l hl'
      refine ⟨p', q', e', ?_⟩
      simp [hs]
theorem MapOf.del {D : DataW Value} {S : Nat → Nat → Bool} {f : Nat → Nat → Value} (h : MapOf D S f) {p q : Nat} (hl : p ≤ 1048576 ∧ q ≤ 1048576) :
    MapOf (D.del (kl p ((q : Int) + 1))) (fun p' q' => S p' q' && !(decide (p' = p) && decide (q' = q))) f := by
  have hS : ∀ p' q', (S p' q' && !(decide (p' = p) && decide (q' = q))) = true → S p' q' = true ∧ ¬ (p' = p ∧ q' = q) := fun p' q' hs => by
    simp at hs
    exact ⟨hs.1, by omega⟩
  refine ⟨h.isMap.del _, fun p' q' hs => h.low p' q' (hS p' q' hs).1, fun p' q' hs => ?_, fun p' q' hs z => ?_, fun l hl' => ?_⟩
  · obtain ⟨hs, e⟩ := hS p' q' hs
    rw [Maps.has_del_other (kl_ne (h.low _ _ hs) hl e)]
    exact h.has p' q' hs
  · obtain ⟨hs, e⟩ := hS p' q' hs
    rw [Maps.atKey_del_other (kl_ne (h.low _ _ hs) hl e)]
    exact h.val p' q' hs z
  · by_cases e : l = kl p ((q : Int) + 1)
    · subst e
      rw [Maps.has_del_same] at hl'
      cases hl'
    · rw [Maps.has_del_other e] at hl'
      obtain ⟨p', q', e', hs⟩ := h.keys l hl'
      refine ⟨p', q', e', ?_⟩
      simp only [hs, Bool.true_and, Bool.not_eq_true']
      by_cases e2 : p' = p ∧ q' = q
      · obtain ⟨rfl, rfl⟩ := e2
        exact absurd e' e
      · simpa using e2

/-! ### kept -/
theorem Ext.grownNone {w w' : World} (e : Ext w w') : w.grownBy w' none := ⟨e.os, e.tape, e.output, e.size, fun k hk _ => Below.block e k hk⟩
abbrev RowMap (w : World) (b n : Nat) (D : DataW Value) : Prop := w.ownsMap Try.prog 137 asIs b n D
abbrev RowRange (w : World) (b r n : Nat) (D : DataW Value) (left : Lit → Bool) (cnt : Nat) : Prop := w.ranges Try.prog 137 asIs b r n D left cnt
theorem RowMap.ext {w w' : World} {b n : Nat} {D : DataW Value} (h : RowMap w b n D) (e : Ext w w') : RowMap w' b n D := h.kept e.grownNone (by simp)
theorem RowRange.ext {w w' : World} {b r n : Nat} {D : DataW Value} {left : Lit → Bool} {cnt : Nat} (h : RowRange w b r n D left cnt) (e : Ext w w') : RowRange w' b r n D left cnt := h.kept e.grownNone (by simp) (by simp)

/-- THE STEP of a range over such a map. -/
theorem wpList_next_inst (w : World) {ops : Array Oper} {rest : List Oper} {o : Oper} {a : Act} {Q : Exit → Act → World → Prop} (hg : o.guard = none) (it : Operand) (hop : o.op = Op.next it false)
    (b r n : Nat) (D : DataW Value) (left : Lit → Bool) (cnt : Nat) (S : Nat → Nat → Bool) (f : Nat → Nat → Value)
    (hit : a.eval it = .pointer (some ⟨r, 0, none⟩)) (h : RowRange w b r n D left cnt) (hM : MapOf D S f)
    (hDone : (∀ l, left l = false) → wpList Try.prog ops Q rest (a.put o.dst (.tuple #[.bool false])) w)
    (hMore : ∀ (p q : Nat) (w' : World) (cnt' : Nat), S p q = true → left (kl p ((q : Int) + 1)) = true → RowRange w' b r n D (fun z => left z && !z.sameKey (kl p ((q : Int) + 1))) cnt' → cnt' < cnt →
      w.grownBy w' (some r) → w'.heap.size = w.heap.size → (Instr.entry (.pointer (some ⟨r, 0, none⟩))).run Try.prog w' = .ok (.tuple #[.agg #[.int .i64 p, .int .i64 ((q : Int) + 1)], f p q]) w' →
        wpList Try.prog ops Q rest (a.put o.dst (.tuple #[.bool true, .agg #[.int .i64 p, .int .i64 ((q : Int) + 1)], f p q])) w') :
    wpList Try.prog ops Q (o :: rest) a w := by
  refine wpList_next_ranges w hg it hop 137 instKeyed asIs (fun x : Int × Int => instV x.1 x.2) (fun v : Value => v) (fun key l hk => ?_) (fun v y _ => ⟨v, rfl⟩) b r n D left cnt hit h (fun _ hl => hDone hl) ?_
  · obtain ⟨x, y, hv, _⟩ := keyOf_inst_inv hk
    exact ⟨(x, y), hv⟩
  · intro x c l y w' cnt' hkey hlk hv hat hrg hlt hgr hsz hen
    obtain ⟨x1, x2⟩ := x
    obtain ⟨a', b', e1, e2, wa, wb⟩ := keyOf_inst_inv hkey
    simp only [instV] at e1 hen
    obtain ⟨p, q, e3, hS⟩ := hM.keys l (Maps.has_true_of_atKey hat)
    have hlow := hM.low p q hS
    have hinj := kl_inj wa wb (wf_small (by omega) (by omega)) (wf_small (by omega) (by omega)) (e2.symm.trans e3)
    obtain ⟨rfl, rfl⟩ := hinj
    simp only [Value.agg.injEq, Array.mk.injEq, List.cons.injEq, Value.int.injEq, true_and, and_true] at e1
    obtain ⟨rfl, rfl⟩ := e1
    rw [e3] at hat hlk hrg
    have hc := (hM.val p q hS .nil).symm.trans (hat .nil)
    simp only [asIs, Option.some.injEq] at hv
    rw [← hv] at hc
    simp only [DataW.held.injEq] at hc
    rw [← hc] at hen ⊢
    exact hMore p q w' cnt' hS hlk hrg hlt hgr hsz hen


end Go.Proofs.Ythnoeknalpnadaa

namespace Go.Proofs.Ythnoeknalpnadaa
open Go.RowKit
set_option linter.unusedVariables false

/-- An instance's two cells. -/
def cellsI (x : Nat × Nat) : List Value := [.int .i64 x.1, .int .i64 ((x.2 : Int) + 1)]
def flatI (L : List (Nat × Nat)) : List Value := L.flatMap cellsI
theorem flatI_len (L : List (Nat × Nat)) : (flatI L).length = L.length * 2 := by
  unfold flatI
  induction L with
  | nil => rfl
  | cons x t ih => rw [List.flatMap_cons, List.length_append, ih]; simp [cellsI]; omega
theorem flatI_at {L : List (Nat × Nat)} {j : Nat} (h : j < L.length) : (flatI L)[j * 2]? = some (.int .i64 (L[j].1 : Int)) ∧ (flatI L)[j * 2 + 1]? = some (.int .i64 ((L[j].2 : Int) + 1)) := by
  induction L generalizing j with
  | nil => simp at h
  | cons x t ih =>
    unfold flatI
    rw [List.flatMap_cons]
    cases j with
    | zero => simp [cellsI]
    | succ j =>
      have h' : j < t.length := by simpa using h
      obtain ⟨i1, i2⟩ := ih h'
      unfold flatI at i1 i2
      have e1 : (j + 1) * 2 = (cellsI x).length + j * 2 := by simp [cellsI]; omega
      refine ⟨?_, ?_⟩
      · rw [e1, List.getElem?_append_right (by omega), Nat.add_sub_cancel_left, i1]
        simp
      · rw [e1, Nat.add_assoc, List.getElem?_append_right (by omega), Nat.add_sub_cancel_left, i2]
        simp

/-- v is a slice of instances of a block that was made from block number B on. -/
def FreshIn (B : Nat) (w : World) (v : Value) (L : List (Nat × Nat)) : Prop := w.ownsRow B 137 2 v L.length (flatI L)
theorem FreshIn.nil (B : Nat) (w : World) : FreshIn B w (.slice none 0 0) [] := ⟨rfl, .inl ⟨rfl, rfl⟩⟩
theorem FreshIn.ext {B : Nat} {w w' : World} {v : Value} {L : List (Nat × Nat)} (h : FreshIn B w v L) (e : Ext w w') : FreshIn B w' v L := e.ownsRow h

/-- v is a slice that reads as the instances L in w. -/
def InstsAt (w : World) (v : Value) (L : List (Nat × Nat)) : Prop :=
  ∃ ao cap, v = .slice ao L.length cap ∧ L.length ≤ maxLen ∧ (L.length ≤ cap ∧ cap ≤ maxLen ∧ (ao = none → cap = 0)) ∧
    (0 < L.length → ∃ b off, ao = some ⟨b, off, none⟩ ∧ ∀ j (h : j < L.length), w.cell? ⟨b, off + j * 2, none⟩ = some (.int .i64 (L[j].1 : Int)) ∧ w.cell? ⟨b, off + j * 2 + 1, none⟩ = some (.int .i64 ((L[j].2 : Int) + 1)))
theorem InstsAt.ext {w w' : World} {v : Value} {L : List (Nat × Nat)} (h : InstsAt w v L) (e : Ext w w') : InstsAt w' v L := by
  obtain ⟨ao, cap, hv, hm, hcap, hc⟩ := h
  refine ⟨ao, cap, hv, hm, hcap, fun hp => ?_⟩
  obtain ⟨b, off, ha, hc⟩ := hc hp
  exact ⟨b, off, ha, fun j hj => ⟨e.cell (hc j hj).1, e.cell (hc j hj).2⟩⟩
theorem FreshIn.at {B : Nat} {w : World} {v : Value} {L : List (Nat × Nat)} (h : FreshIn B w v L) : InstsAt w v L := by
  rcases h.2 with ⟨rfl, hn⟩ | ⟨g, cap, cur, rfl, hb, hg, hnc, hcm, hcs, htake⟩
  · obtain rfl : L = [] := List.eq_nil_of_length_eq_zero hn
    exact ⟨none, 0, rfl, by simp, ⟨by simp, by simp, fun _ => rfl⟩, fun h => by simp at h⟩
  · refine ⟨some ⟨g, 0, none⟩, cap, rfl, by omega, ⟨by omega, by omega, fun h => by cases h⟩, fun _ => ⟨g, 0, rfl, fun j hj => ?_⟩⟩
    have hc1 := World.ownsRow.cellAt h (j * 2) (by omega)
    have hc2 := World.ownsRow.cellAt h (j * 2 + 1) (by omega)
    obtain ⟨f1, f2⟩ := flatI_at hj
    rw [Nat.zero_add]
    exact ⟨hc1.trans f1, hc2.trans f2⟩

theorem Try.infoInst : (Try.prog.info? 137).map (fun i => (i.zero, i.size, i.bytes)) = some (some (.agg #[.int .i64 0, .int .i64 0]), 2, 16) := by kernel_rfl

/-- append(s, x), s of the call's own. -/
theorem wpList_pushI {ops : Array Oper} {rest : List Oper} {o : Oper} {a : Act} {Q : Exit → Act → World → Prop} {w : World} (hgd : o.guard = none) (s x : Operand)
    (ho : o.op = .call { callee := .builtin .append, args := #[s, x], argTypes := #[150, 150] })
    (B : Nat) (v : Value) (L : List (Nat × Nat)) (y : Nat × Nat) (hs : a.eval s = v) (hf : FreshIn B w v L) (g : Nat) (c : Nat) (hx : a.eval x = .slice (some ⟨g, 0, none⟩) 1 c)
    (hc0 : w.cell? ⟨g, 0, none⟩ = some (.int .i64 (y.1 : Int))) (hc1 : w.cell? ⟨g, 1, none⟩ = some (.int .i64 ((y.2 : Int) + 1))) (hl : L.length ≤ 1048576) (hB : B ≤ w.heap.size)
    (h : ∀ v' w', FreshIn B w' v' (L ++ [y]) → w.grownBy w' v.ownBlock → Kept B w w' → wpList Try.prog ops Q rest (a.put o.dst v') w') : wpList Try.prog ops Q (o :: rest) a w := by
  obtain ⟨i0, hi, hz0, hz1, hz2⟩ := info_parts Try.infoInst
  refine wpList_append_own _ hgd s x 150 ho B 137 i0 (.agg #[.int .i64 0, .int .i64 0]) 2 16 Try.underlying150 hi hz0 hz1 hz2 rfl (by decide) v L.length _ hs hf ⟨g, 0, none⟩ 1 c (cellsI y) hx rfl ?_ ?_ ?_ ?_ hB ?_
  · intro j u hj
    match j, hj with
    | 0, hj => simp [cellsI] at hj; subst hj; simpa [Addr.add] using hc0
    | 1, hj => simp [cellsI] at hj; subst hj; simpa [Addr.add] using hc1
  · intro u hu
    simp [cellsI] at hu
    rcases hu with rfl | rfl <;> rfl
  · unfold maxLen; omega
  · omega
  · intro v' w' ho' hg _
    refine h v' w' ?_ hg (fun w0 hx0 hB0 => Below.grown hx0 hg hx0.size (fun q hq => Nat.le_trans hB0 (World.ownsRow.lt hf q hq).1))
    unfold FreshIn
    have e : flatI (L ++ [y]) = flatI L ++ cellsI y := by simp [flatI]
    rw [e, List.length_append]
    exact ho'

end Go.Proofs.Ythnoeknalpnadaa

namespace Go.Proofs.Ythnoeknalpnadaa
open Go.RowKit Go.Maps
set_option linter.unusedVariables false

/-- The instances ahead of (k, j). -/
def tillT (T : List (List RowD)) (k j p q : Nat) : Bool := inT T p q && (decide (p < k) || (decide (p = k) && decide (q < j)))
theorem tillT_zero (T : List (List RowD)) (p q : Nat) : tillT T 0 0 p q = false := by simp [tillT]
theorem tillT_step {T : List (List RowD)} {k j : Nat} (hk : k < T.length) (hj : j < T[k].length) (p q : Nat) :
    tillT T k (j + 1) p q = (tillT T k j p q || (decide (p = k) && decide (q = j))) := by
  unfold tillT
  by_cases e : p = k ∧ q = j
  · obtain ⟨rfl, rfl⟩ := e
    rw [inT_mk hk hj]
    simp
  · have h1 : (decide (p = k) && decide (q = j)) = false := by simpa using e
    rw [h1, Bool.or_false]
    congr 1
    rw [Bool.eq_iff_iff]
    simp
    omega
theorem tillT_next {T : List (List RowD)} {k : Nat} (hk : k < T.length) (p q : Nat) : tillT T (k + 1) 0 p q = tillT T k T[k].length p q := by
  unfold tillT
  cases hi : inT T p q with
  | false => rfl
  | true =>
    obtain ⟨hp, hq⟩ := inT_of hi
    rw [Bool.eq_iff_iff]
    simp
    by_cases e : p = k
    · subst e
      simp [hq]
    · omega
theorem tillT_all {T : List (List RowD)} (p q : Nat) : tillT T T.length 0 p q = inT T p q := by
  unfold tillT
  cases hi : inT T p q with
  | false => rfl
  | true =>
    obtain ⟨hp, hq⟩ := inT_of hi
    simp [hp]

/-- A map of a table's instances comes back, in new memory. -/
def NewRowMap (T : List (List RowD)) (S : Nat → Nat → Bool) (f : Nat → Nat → Value) (w : World) (e : Ending) (w' : World) : Prop :=
  ∃ b D, e = .returned (.map (some b)) ∧ RowMap w' b 30 D ∧ MapOf D S f ∧ w.heap.size ≤ b ∧ Ext w w'

theorem Ext.turned {w0 w w' : World} {b : Nat} (h : Ext w0 w) (t : w.grownBy w' (some b)) (hb : w0.heap.size ≤ b) : Ext w0 w' := Below.grown h t h.size (fun k hk => by cases hk; exact hb)

set_option maxHeartbeats 4000000 in
set_option maxRecDepth 100000 in
theorem rowsIn_any (n : Int) (u : Value) (T : List (List RowD)) (U : Nat → Nat → Value) (w : World) (hu : TabAt w u T U) (hT : T.length ≤ 5) (hR6 : ∀ R ∈ T, R.length ≤ 6) :
    Calls Try.prog 119 #[.agg #[.int .i64 n, u]] w (NewRowMap T (inT T) (rowF n T U) w) := by
  obtain ⟨au, cu, rfl, hlu, _, hcu⟩ := hu
  unfold maxLen at hlu
  have H6 := Lib.hid hR6
  clear hR6
  have hmm := @run_makeMap Try.prog
  have hx0 : Ext w ((w.alloc (.cells #[.int .i64 n, .slice au T.length cu] 24)).alloc (.map #[] 0)) := Ext.alloc (Ext.alloc1 _ _) _
  have hm0 : RowMap ((w.alloc (.cells #[.int .i64 n, .slice au T.length cu] 24)).alloc (.map #[] 0)) (w.heap.size + 1) 0 (.map []) := by
    have h := World.ownsMap_made (w.alloc (.cells #[.int .i64 n, .slice au T.length cu] 24)) Try.prog 137 asIs
    simpa using h
  have HX0 := Lib.hid hx0
  have HM0 := Lib.hid hm0
  clear hx0 hm0
  go_enter Try.func119, Try.ntmps119
  go_wp2
  go_loopw [12] (fun i wr => ∃ (k : Nat) (D : DataW Value), k ≤ T.length ∧ i = .int .i64 k ∧ Hid (RowMap wr (w.heap.size + 1) (6 * k) D) ∧ Hid (MapOf D (tillT T k 0) (rowF n T U)) ∧ Ext w wr) (fun i _ => T.length - (intOf i).toNat)
  case atStart => exact ⟨0, _, Nat.zero_le _, rfl, HM0, Lib.hid ((MapOf.empty (rowF n T U)).congr (fun p q => tillT_zero T p q) (fun _ _ h => by cases h)), HX0.out⟩
  case round =>
    clear HM0 HX0
    obtain ⟨k, D, hk, rfl, HM, HD, hx⟩ := hrel
    by_cases hlt : k < T.length
    · obtain ⟨bu, ou, rfl, du⟩ := hcu (by omega)
      obtain ⟨x, hx1, ix⟩ := du k hlt
      have gu := hx.cell hx1
      obtain ⟨R, hR⟩ : ∃ R, R = T[k] := ⟨_, rfl⟩
      rw [← hR] at ix
      have hl6 : R.length ≤ 6 := by rw [hR]; exact H6.out _ (List.getElem_mem hlt)
      obtain ⟨ax, cx, rfl, hlx, _, hcx⟩ := ix
      unfold maxLen at hlx
      have HR := Lib.hid hR
      have HX := Lib.hid hx
      clear hcu du hx1 hR hx
      go_wp2
      go_loopw [19] (fun i wr => ∃ (j : Nat) (D : DataW Value), j ≤ R.length ∧ i = .int .i64 j ∧ Hid (RowMap wr (w.heap.size + 1) (6 * k + j) D) ∧ Hid (MapOf D (tillT T k j) (rowF n T U)) ∧ Ext w wr) (fun i _ => R.length - (intOf i).toNat)
      case atStart => exact ⟨0, D, Nat.zero_le _, rfl, HM, HD, HX.out⟩
      case round =>
        clear HM HD HX
        obtain ⟨j, D, hj, rfl, HM, HD, hy⟩ := hrel
        by_cases hjt : j < R.length
        · obtain ⟨bx, ox, rfl, dx⟩ := hcx (by omega)
          obtain ⟨hy1, iy⟩ := dx j hjt
          obtain ⟨ay, cy, hU, _⟩ := iy
          have hval : rowF n T U k j = rowV R[j] (U k j) := by
            unfold rowF
            rw [rowOf_in hlt (by rw [← HR.out]; exact hjt)]
            simp only [HR.out]
          obtain ⟨d, hd⟩ : ∃ d, d = R[j] := ⟨_, rfl⟩
          rw [← hd] at hy1 hval hU
          rw [hU] at hy1 hval
          obtain ⟨g0, g1, g2, g3, g4, g5, g6, g7, g8, g9⟩ := hy1.ext hy
          have hput := HD.out.put (p := k) (q := j) (by omega) hval
          have HP := Lib.hid (hput.congr (S' := tillT T k (j + 1)) (f' := rowF n T U) (fun p q => tillT_step hlt (by rw [← HR.out]; exact hjt) p q) (fun _ _ _ => rfl))
          have HY := Lib.hid hy
          have HB : Hid (w.heap.size ≤ w.heap.size + 1) := Lib.hid (by omega)
          clear dx hy1 hd hcx hval hput HD hy hU
          go_wp2_with (at_mapUpdate; refine wpList_mapUpdate_own _ rfl _ _ _ 156 rfl 137 71 instKeyed Try.underlying156 asIs (w.heap.size + 1) (6 * k + j) D rfl (HM.out.alloc _) (by unfold maxLen; omega) _ _ (kl (k : Int) ((j : Int) + 1)) rfl rfl (keyOf_inst (wf_small (by omega) (by omega)) (wf_small (by omega) (by omega))) (.held (rowV d (.slice ay d.l.length cy))) [] rfl ?_)
          intro w1 hown1 hgrow1
          have hz : Ext w w1 := (HY.out.alloc _).turned hgrow1 HB.out
          have HO := Lib.hid hown1
          clear hown1 hgrow1 HM HY
          go_wp2
          go_roundw
          case rel => exact ⟨j + 1, _, by omega, by go_num, HO, HP, hz⟩
          case measure => simp [intOf]; omega
        · obtain rfl : j = R.length := by omega
          have HD' : Hid (MapOf D (tillT T (k + 1) 0) (rowF n T U)) := Lib.hid (HD.out.congr (fun p q => by rw [tillT_next hlt, ← HR.out]) (fun _ _ _ => rfl))
          have HM' : Hid (RowMap wr (w.heap.size + 1) (6 * (k + 1)) D) := Lib.hid (HM.out.mono (by omega))
          clear HD HM
          go_wp2
          go_roundw
          case rel => exact ⟨k + 1, D, by omega, by go_num, HM', HD', hy⟩
          case measure => simp [intOf]; omega
    · obtain rfl : k = T.length := by omega
      have HD' : Hid (MapOf D (inT T) (rowF n T U)) := Lib.hid (HD.out.congr (fun p q => (tillT_all p q).symm) (fun _ _ _ => rfl))
      have HM' : Hid (RowMap wr (w.heap.size + 1) 30 D) := Lib.hid (HM.out.mono (by omega))
      clear HD HM
      go_wp2
      go_ret
      exact ⟨_, D, rfl, HM'.out, HD'.out, by omega, hx⟩

end Go.Proofs.Ythnoeknalpnadaa

namespace Go.Proofs.Ythnoeknalpnadaa
open Go.RowKit
set_option linter.unusedVariables false

def bothTo (k f t k' f' t' : Int) (n : Nat) : Bool := (List.range n).any fun (j : Nat) => touchB k f t (j : Int) && touchB k' f' t' (j : Int)
theorem bothTo_succ (k f t k' f' t' : Int) (n : Nat) : bothTo k f t k' f' t' (n + 1) = (bothTo k f t k' f' t' n || (touchB k f t (n : Int) && touchB k' f' t' (n : Int))) := by
  simp [bothTo, List.range_succ]
theorem bothTo_all {k i f t a k' i' f' t' a' : Int} (hg : goodB k i f t a = true) (hg' : goodB k' i' f' t' a' = true) : interB k f t k' f' t' = bothTo k f t k' f' t' 4 := by
  unfold interB
  rw [← touchedTo_all hg, ← touchedTo_all hg']
  have r4 : List.range 4 = [0, 1, 2, 3] := rfl
  unfold touchedTo bothTo interL
  rw [r4]
  simp only [List.filter_cons, List.filter_nil, List.any_cons, List.any_nil]
  generalize touchB k f t ((0 : Nat) : Int) = a0
  generalize touchB k f t ((1 : Nat) : Int) = a1
  generalize touchB k f t ((2 : Nat) : Int) = a2
  generalize touchB k f t ((3 : Nat) : Int) = a3
  generalize touchB k' f' t' ((0 : Nat) : Int) = b0
  generalize touchB k' f' t' ((1 : Nat) : Int) = b1
  generalize touchB k' f' t' ((2 : Nat) : Int) = b2
  generalize touchB k' f' t' ((3 : Nat) : Int) = b3
  revert a0 a1 a2 a3 b0 b1 b2 b3
  decide

set_option maxHeartbeats 2000000 in
theorem implInterfere_good (k i f t a k' i' f' t' a' : Int) (w : World) (hg : goodB k i f t a = true) (hg' : goodB k' i' f' t' a' = true) :
    Calls Try.prog 126 #[.agg #[.int .i64 k, .int .i64 i, .int .i64 f, .int .i64 t, .int .i64 a], .agg #[.int .i64 k', .int .i64 i', .int .i64 f', .int .i64 t', .int .i64 a']] w (TwoB (bothTo k f t k' f' t' 4) true w) := by
  have HG := Lib.hid hg
  have HG' := Lib.hid hg'
  clear hg hg'
  go_enter Try.func126, Try.ntmps126
  go_wp2_with fail
  refine (implGood_any _ _ _ _ _ _).mono ?_
  rintro e w1 ⟨rfl, x1⟩
  rw [HG.out]
  obtain ⟨c0, c1, c2, c3, c4⟩ := (cmdAt_new2 w (.cells #[.int .i64 k, .int .i64 i, .int .i64 f, .int .i64 t, .int .i64 a] 36) 36 k' i' f' t' a').ext x1
  obtain ⟨d0, d1, d2, d3, d4⟩ := (((cmdAt_new w 36 k i f t a).ext (Ext.alloc (Ext.refl _) (.cells #[.int .i64 k', .int .i64 i', .int .i64 f', .int .i64 t', .int .i64 a'] 36)))).ext x1
  go_wp2_with fail
  refine (implGood_any _ _ _ _ _ _).mono ?_
  rintro e w2 ⟨rfl, x2⟩
  rw [HG'.out]
  have hc : CmdAt w2 (w.heap.size + 1) k' i' f' t' a' := (show CmdAt w1 (w.heap.size + 1) k' i' f' t' a' from ⟨c0, c1, c2, c3, c4⟩).ext x2
  have hd : CmdAt w2 w.heap.size k i f t a := (show CmdAt w1 w.heap.size k i f t a from ⟨d0, d1, d2, d3, d4⟩).ext x2
  clear c0 c1 c2 c3 c4 d0 d1 d2 d3 d4
  obtain ⟨c0, c1, c2, c3, c4⟩ := hc
  go_wp2_with fail
  refine (touchedBy_any _ _ _ _ _ _ HG'.out).mono ?_
  rintro e w3 ⟨rfl, x3⟩
  obtain ⟨d0, d1, d2, d3, d4⟩ := (hd.ext x3).ext (Ext.alloc (Ext.refl w3) (.cells #[.bool (touchB k' f' t' 0), .bool (touchB k' f' t' 1), .bool (touchB k' f' t' 2), .bool (touchB k' f' t' 3)] 196))
  have hx : Ext w w3 := ((((Ext.alloc (Ext.refl _) _).alloc _).trans x1).trans x2).trans x3
  clear c0 c1 c2 c3 c4 x1 x2 x3 hd
  go_wp2_with fail
  refine (touchedBy_any _ _ _ _ _ _ HG.out).mono ?_
  rintro e w4 ⟨rfl, x4⟩
  have m0 := x4.cell (a := ⟨w3.heap.size, 0, none⟩) (v := .bool (touchB k' f' t' 0)) (by go_simp)
  have m1 := x4.cell (a := ⟨w3.heap.size, 1, none⟩) (v := .bool (touchB k' f' t' 1)) (by go_simp)
  have m2 := x4.cell (a := ⟨w3.heap.size, 2, none⟩) (v := .bool (touchB k' f' t' 2)) (by go_simp)
  have m3 := x4.cell (a := ⟨w3.heap.size, 3, none⟩) (v := .bool (touchB k' f' t' 3)) (by go_simp)
  have hx4 : Ext w w4 := (hx.alloc _).trans x4
  have HM := Lib.hid (And.intro m0 (And.intro m1 (And.intro m2 m3)))
  clear d0 d1 d2 d3 d4 m0 m1 m2 m3 x4 hx
  go_wp2
  go_loopw [21] (fun j wr => ∃ n : Nat, n ≤ 4 ∧ j = .int .i64 n ∧ bothTo k f t k' f' t' n = false ∧ wr = w4) (fun j _ => 4 - (intOf j).toNat)
  case atStart => exact ⟨0, by omega, rfl, rfl, by trivial⟩
  case round =>
    obtain ⟨n, hn, rfl, ha, rfl⟩ := hrel
    have HA := Lib.hid ha
    clear ha
    by_cases hlt : n < 4
    · have hn4 : n = 0 ∨ n = 1 ∨ n = 2 ∨ n = 3 := by omega
      have hcell : wr.cell? ⟨w3.heap.size, n, none⟩ = some (.bool (touchB k' f' t' n)) := by
        obtain ⟨m0, m1, m2, m3⟩ := HM.out
        rcases hn4 with rfl | rfl | rfl | rfl
        · exact m0
        · exact m1
        · exact m2
        · exact m3
      have hix : ∀ W, (Instr.index 196 (.agg #[.bool (touchB k f t 0), .bool (touchB k f t 1), .bool (touchB k f t 2), .bool (touchB k f t 3)]) (.int .i64 (n : Int))).run Try.prog W = .ok (.bool (touchB k f t n)) W := by
        intro W
        rcases hn4 with rfl | rfl | rfl | rfl
        · exact index4_0 _ _ _ _ W
        · exact index4_1 _ _ _ _ W
        · exact index4_2 _ _ _ _ W
        · exact index4_3 _ _ _ _ W
      have hs := bothTo_succ k f t k' f' t' n
      rw [HA.out, Bool.false_or] at hs
      have HS := Lib.hid hs
      clear hs hn4
      cases h1 : touchB k f t n with
      | false =>
        rw [h1] at hix
        have HT := Lib.hid h1
        clear h1
        go_wp2
        go_roundw
        case rel => exact ⟨n + 1, by omega, by go_num, by rw [HS.out, HT.out]; rfl, by trivial⟩
        case measure => simp [intOf]; omega
      | true =>
        rw [h1] at hix
        have HT := Lib.hid h1
        clear h1
        cases h2 : touchB k' f' t' n with
        | false =>
          rw [h2] at hcell
          have HU := Lib.hid h2
          clear h2
          go_wp2
          go_roundw
          case rel => exact ⟨n + 1, by omega, by go_num, by rw [HS.out, HT.out, HU.out]; rfl, by trivial⟩
          case measure => simp [intOf]; omega
        | true =>
          rw [h2] at hcell
          have HU := Lib.hid h2
          clear h2
          go_wp2
          go_ret2
          have hb : bothTo k f t k' f' t' 4 = true := by
            unfold bothTo
            rw [List.any_eq_true]
            exact ⟨n, List.mem_range.2 hlt, by rw [HT.out, HU.out]; rfl⟩
          exact ⟨by rw [hb]; rfl, hx4⟩
    · obtain rfl : n = 4 := by omega
      go_wp2
      go_ret2
      exact ⟨by rw [HA.out]; rfl, hx4⟩

theorem implInterfere_any (k i f t a k' i' f' t' a' : Int) (w : World) :
    Calls Try.prog 126 #[.agg #[.int .i64 k, .int .i64 i, .int .i64 f, .int .i64 t, .int .i64 a], .agg #[.int .i64 k', .int .i64 i', .int .i64 f', .int .i64 t', .int .i64 a']] w (TwoB ((goodB k i f t a && goodB k' i' f' t' a') && interB k f t k' f' t') (goodB k i f t a && goodB k' i' f' t' a') w) := by
  cases hg : goodB k i f t a with
  | false =>
    have HG := Lib.hid hg
    clear hg
    go_enter Try.func126, Try.ntmps126
    go_wp2_with fail
    refine (implGood_any _ _ _ _ _ _).mono ?_
    rintro e w1 ⟨rfl, x1⟩
    rw [HG.out]
    go_wp2
    go_ret2
    exact ⟨rfl, ((Ext.alloc (Ext.refl _) _).alloc _).trans x1⟩
  | true =>
    cases hg' : goodB k' i' f' t' a' with
    | false =>
      have HG := Lib.hid hg
      have HG' := Lib.hid hg'
      clear hg hg'
      go_enter Try.func126, Try.ntmps126
      go_wp2_with fail
      refine (implGood_any _ _ _ _ _ _).mono ?_
      rintro e w1 ⟨rfl, x1⟩
      rw [HG.out]
      obtain ⟨c0, c1, c2, c3, c4⟩ := (cmdAt_new2 w (.cells #[.int .i64 k, .int .i64 i, .int .i64 f, .int .i64 t, .int .i64 a] 36) 36 k' i' f' t' a').ext x1
      go_wp2_with fail
      refine (implGood_any _ _ _ _ _ _).mono ?_
      rintro e w2 ⟨rfl, x2⟩
      rw [HG'.out]
      go_wp2
      go_ret2
      exact ⟨rfl, (((Ext.alloc (Ext.refl _) _).alloc _).trans x1).trans x2⟩
    | true =>
      rw [bothTo_all hg hg']
      exact implInterfere_good k i f t a k' i' f' t' a' w hg hg'

end Go.Proofs.Ythnoeknalpnadaa

namespace Go.Proofs.Ythnoeknalpnadaa
open Go.RowKit Go.Maps
set_option linter.unusedVariables false

/-- What is left of all instances while the map is swept: those that are settled, and those still to come. -/
def sweptT (T : List (List RowD)) (left : Lit → Bool) (p q : Nat) : Bool := inT T p q && (instCom T p q || left (kl (p : Int) ((q : Int) + 1)))
theorem inT_low {T : List (List RowD)} (hT : T.length ≤ 5) (hR6 : ∀ R ∈ T, R.length ≤ 6) {p q : Nat} (h : inT T p q = true) : p ≤ 4 ∧ q ≤ 5 := by
  obtain ⟨hp, hq⟩ := inT_of h
  have := hR6 _ (List.getElem_mem hp)
  omega
theorem instCom_inT {T : List (List RowD)} {p q : Nat} (h : instCom T p q = true) : inT T p q = true := by
  obtain ⟨hp, hq, _⟩ := instCom_lt h
  exact inT_mk hp hq
theorem instCom_row {n : Int} {T : List (List RowD)} {p q : Nat} (h : inT T p q = true) : instCom T p q = ((rowOf n T p q).st == 3) := by
  obtain ⟨hp, hq⟩ := inT_of h
  rw [instCom_in hp hq, rowOf_in hp hq]
theorem same_kl {p q p' q' : Nat} (h1 : p ≤ 1048576 ∧ q ≤ 1048576) (h2 : p' ≤ 1048576 ∧ q' ≤ 1048576) : (kl (p : Int) ((q : Int) + 1)).sameKey (kl (p' : Int) ((q' : Int) + 1)) = (decide (p = p') && decide (q = q')) := by
  by_cases e : p = p' ∧ q = q'
  · obtain ⟨rfl, rfl⟩ := e
    rw [WideAt.sameKey_self (instKeyed.key (keyOf_inst (wf_small (by omega) (by omega)) (wf_small (by omega) (by omega))))]
    simp
  · rw [Maps.sameKey_ne (kl_ne h1 h2 e)]
    symm
    simpa using e

/-- One instance has come: it is settled. -/
theorem swept_stays {T : List (List RowD)} (hT : T.length ≤ 5) (hR6 : ∀ R ∈ T, R.length ≤ 6) {left : Lit → Bool} {p q : Nat} (hi : inT T p q = true) (hc : instCom T p q = true) (p' q' : Nat) :
    sweptT T (fun z => left z && !z.sameKey (kl (p : Int) ((q : Int) + 1))) p' q' = sweptT T left p' q' := by
  unfold sweptT
  cases hi' : inT T p' q' with
  | false => rfl
  | true =>
    have h1 := inT_low hT hR6 hi
    have h2 := inT_low hT hR6 hi'
    simp only [Bool.true_and]
    rw [same_kl (by omega) (by omega)]
    by_cases e : p' = p ∧ q' = q
    · obtain ⟨rfl, rfl⟩ := e
      rw [hc]; rfl
    · have : (decide (p' = p) && decide (q' = q)) = false := by simpa using e
      rw [this]
      simp
/-- .. it is not. -/
theorem swept_goes {T : List (List RowD)} (hT : T.length ≤ 5) (hR6 : ∀ R ∈ T, R.length ≤ 6) {left : Lit → Bool} {p q : Nat} (hi : inT T p q = true) (hc : instCom T p q = false) (p' q' : Nat) :
    sweptT T (fun z => left z && !z.sameKey (kl (p : Int) ((q : Int) + 1))) p' q' = (sweptT T left p' q' && !(decide (p' = p) && decide (q' = q))) := by
  unfold sweptT
  cases hi' : inT T p' q' with
  | false => rfl
  | true =>
    have h1 := inT_low hT hR6 hi
    have h2 := inT_low hT hR6 hi'
    simp only [Bool.true_and]
    rw [same_kl (by omega) (by omega)]
    by_cases e : p' = p ∧ q' = q
    · obtain ⟨rfl, rfl⟩ := e
      rw [hc]; simp
    · have : (decide (p' = p) && decide (q' = q)) = false := by simpa using e
      rw [this]
      simp

theorem swept_start {T : List (List RowD)} {D : DataW Value} {f : Nat → Nat → Value} (h : MapOf D (inT T) f) (p q : Nat) : sweptT T (Maps.has D) p q = inT T p q := by
  unfold sweptT
  cases hi : inT T p q with
  | false => rfl
  | true => rw [h.has p q hi]; simp
theorem swept_end {T : List (List RowD)} {left : Lit → Bool} (h : ∀ l, left l = false) (p q : Nat) : instCom T p q = sweptT T left p q := by
  unfold sweptT
  rw [h]
  cases hi : instCom T p q with
  | false => simp
  | true => rw [instCom_inT hi]; rfl
theorem swept_in {T : List (List RowD)} {left : Lit → Bool} {p q : Nat} (h : sweptT T left p q = true) : inT T p q = true := by
  unfold sweptT at h
  rw [Bool.and_eq_true] at h
  exact h.1

end Go.Proofs.Ythnoeknalpnadaa

namespace Go.Proofs.Ythnoeknalpnadaa
open Go.RowKit Go.Maps
set_option linter.unusedVariables false

set_option maxHeartbeats 1000000 in
theorem doInterfere_any (r r' : RowD) (u u' : Value) (w : World) (hu : ∃ a l c, u = .slice a l c) (hu' : ∃ a l c, u' = .slice a l c) :
    Calls Try.prog 120 #[rowV r u, rowV r' u'] w (BoolExt ((goodB r.k r.i r.f r.t r.a && goodB r'.k r'.i r'.f r'.t r'.a) && interB r.k r.f r.t r'.k r'.f r'.t) w) := by
  obtain ⟨a, l, c, rfl⟩ := hu
  obtain ⟨a', l', c', rfl⟩ := hu'
  unfold rowV
  go_enter Try.func120, Try.ntmps120
  go_wp2_with fail
  refine (implInterfere_any _ _ _ _ _ _ _ _ _ _ _).mono ?_
  rintro e w1 ⟨rfl, x1⟩
  have HX := Lib.hid ((Ext.alloc2 w _ _).trans x1)
  clear x1
  go_wp2
  go_ret
  exact ⟨rfl, HX.out⟩

end Go.Proofs.Ythnoeknalpnadaa

namespace Go.Proofs.Ythnoeknalpnadaa
open Go.RowKit
set_option linter.unusedVariables false

/-- A world that is W with new blocks. -/
def ExtOf (W : World) := {w' : World // Ext W w'}
instance (W : World) : Nonempty (ExtOf W) := ⟨⟨W, Ext.refl W⟩⟩
theorem ExtOf.cell {W : World} (e : ExtOf W) {a : Addr} {v : Value} (h : W.cell? a = some v) : e.1.cell? a = some v := Ext.cell e.2 h
theorem wp_region_ext_lit {P : Program} {id : Nat} {Q : Exit → Act → World → Prop} {a : Act} {w : World} {l : List Oper} (hm : P.follows .mixedOrders = true) (hB : Region.lexB .any l.toArray = true)
    (h : wpQuiet P l.toArray (fun w' => ∃ e : ExtOf w, w' = e.1) (fun a' => ∀ w', (∃ e : ExtOf w, w' = e.1) → Q .normal a' w') l a) : (Code.region id l.toArray true).wp P Q a w :=
  wp_region_quiet (C := fun w' => ∃ e : ExtOf w, w' = e.1) hm hB ⟨⟨w.drew, Ext.drew (Ext.refl w)⟩, rfl⟩ (by simpa using h)
/-- A callee's contract, met in such a world. -/
theorem Calls.ext_of {P : Program} {f : FuncId} {args : Array Value} {W : World} {v : Value} (e : ExtOf W)
    (h : Calls P f args e.1 fun x w' => x = .returned v ∧ Ext e.1 w') : Calls P f args e.1 fun x w'' => x = .returned v ∧ ∃ e' : ExtOf W, w'' = e'.1 :=
  h.mono fun _ w' ⟨he, hx⟩ => ⟨he, ⟨w', e.2.trans hx⟩, rfl⟩

end Go.Proofs.Ythnoeknalpnadaa

namespace Go.Proofs.Ythnoeknalpnadaa
open Go.RowKit Go.Maps
set_option linter.unusedVariables false

/-- All instances that have come conflict with none. -/
def DoneH (n : Int) (T : List (List RowD)) (left : Lit → Bool) : Prop := ∀ x ∈ insts T, left (kl (x.1 : Int) ((x.2 : Int) + 1)) = false → ∀ y ∈ insts T, x ≠ y → cfl n T x y = false
/-- .. those that have come do not conflict with this one. -/
def DoneI (n : Int) (T : List (List RowD)) (x : Nat × Nat) (left : Lit → Bool) : Prop := ∀ y ∈ insts T, left (kl (y.1 : Int) ((y.2 : Int) + 1)) = false → x ≠ y → cfl n T x y = false

theorem left_other {left : Lit → Bool} {x : Nat × Nat} {p q : Nat} (h1 : x.1 ≤ 1048576 ∧ x.2 ≤ 1048576) (h2 : p ≤ 1048576 ∧ q ≤ 1048576) (e : ¬ x = (p, q))
    (h : (fun z : Lit => left z && !z.sameKey (kl (p : Int) ((q : Int) + 1))) (kl (x.1 : Int) ((x.2 : Int) + 1)) = false) : left (kl (x.1 : Int) ((x.2 : Int) + 1)) = false := by
  have h' : (left (kl (x.1 : Int) ((x.2 : Int) + 1)) && !(kl (x.1 : Int) ((x.2 : Int) + 1)).sameKey (kl (p : Int) ((q : Int) + 1))) = false := h
  rw [same_kl h1 h2] at h'
  have : (decide (x.1 = p) && decide (x.2 = q)) = false := by
    simp only [Bool.and_eq_false_iff, decide_eq_false_iff_not]
    by_cases e1 : x.1 = p
    · exact .inr (fun e2 => e (Prod.ext e1 e2))
    · exact .inl e1
  rw [this] at h'
  simpa using h'
theorem goodTab_both {n : Int} {T : List (List RowD)} (h : goodTab n T = true) : T.length ≤ 5 ∧ ∀ R ∈ T, R.length ≤ 6 := by
  obtain ⟨h1, h2, h3⟩ := goodTab_of h
  refine ⟨?_, fun R hR => (h3 R hR).1⟩
  rcases isGrp_of h1 with e | e <;> omega
theorem goodRow_cmd' {n : Int} {r : RowD} (h : goodRow n r = true) : goodB r.k r.i r.f r.t r.a = true ∧ ((r.st == 0) = true → r.k = 0) := by
  unfold goodRow at h
  simp only [Bool.and_eq_true] at h
  have h2 := h.2
  split at h2
  · unfold emptyB zeroC at h2
    simp only [Bool.and_eq_true, beq_iff_eq] at h2
    obtain ⟨⟨_, e0, e1, e2, e3, e4⟩, _⟩ := h2
    rw [e0, e1, e2, e3, e4]
    exact ⟨rfl, fun _ => rfl⟩
  · rename_i hst
    unfold fullB at h2
    simp only [Bool.and_eq_true] at h2
    exact ⟨h2.1, fun h => absurd h (by simpa using hst)⟩
/-- A settled row of a good table: its command is good, its list has an entry for each replica. -/
theorem com_row {n : Int} {T : List (List RowD)} (h : goodTab n T = true) {p q : Nat} (hc : instCom T p q = true) :
    goodB (rowOf n T p q).k (rowOf n T p q).i (rowOf n T p q).f (rowOf n T p q).t (rowOf n T p q).a = true ∧ (rowOf n T p q).l.length = T.length ∧ p < T.length ∧ q ≤ 5 := by
  obtain ⟨hp, hq, hs⟩ := instCom_lt hc
  have h1 := goodTab_row h hp hq
  have h2 := goodTab_of h
  have h3 := (h2.2.2 _ (List.getElem_mem hp)).1
  rw [rowOf_in hp hq]
  refine ⟨?_, by omega, hp, by omega⟩
  exact (goodRow_cmd' h1.1).1
/-- Two integers in a block. -/
def TwoAt (w : World) (b : Nat) (x y : Int) : Prop := w.cell? ⟨b, 0, none⟩ = some (.int .i64 x) ∧ w.cell? ⟨b, 1, none⟩ = some (.int .i64 y)
theorem TwoAt.ext {w w' : World} {b : Nat} {x y : Int} (h : TwoAt w b x y) (e : Ext w w') : TwoAt w' b x y := ⟨e.cell h.1, e.cell h.2⟩
theorem two_new (w : World) (x y : Int) (T T' : TypeId) (C : Array Value) : TwoAt ((w.alloc (.cells #[.int .i64 x, .int .i64 y] T)).alloc (.cells C T')) w.heap.size x y := by
  refine ⟨?_, ?_⟩ <;> go_simp
theorem row_new (w : World) (o : Obj) (T : TypeId) (r : RowD) (u : Value) : RowAt ((w.alloc o).alloc (.cells #[.int .i64 r.b, .int .i64 r.v, .int .i64 r.st, .int .i64 r.k, .int .i64 r.i, .int .i64 r.f, .int .i64 r.t, .int .i64 r.a, .int .i64 r.s, u] T)) (w.heap.size + 1) r u := by
  have h := rowAt_new (w.alloc o) T r u
  simpa using h

end Go.Proofs.Ythnoeknalpnadaa

namespace Go.Proofs.Ythnoeknalpnadaa
open Go.RowKit
set_option linter.unusedVariables false

/-- A number comes back: from 0 on just where x is met. -/
def IndexOfI (L : List (Nat × Nat)) (x : Nat × Nat) (w : World) (e : Ending) (w' : World) : Prop := ∃ n : Int, e = .returned (.int .i64 n) ∧ decide (0 ≤ n) = decide (x ∈ L) ∧ Ext w w'

set_option maxHeartbeats 1600000 in
theorem indexI_any (v : Value) (L : List (Nat × Nat)) (p q : Nat) (w : World) (hv : InstsAt w v L) : Calls Try.prog 177 #[v, .agg #[.int .i64 p, .int .i64 ((q : Int) + 1)]] w (IndexOfI L (p, q) w) := by
  obtain ⟨wb, hwb⟩ : ∃ wb, wb = w.alloc (.cells #[.int .i64 p, .int .i64 ((q : Int) + 1)] 137) := ⟨_, rfl⟩
  have xb : Ext w wb := by rw [hwb]; exact Ext.alloc1 _ _
  have hbox : TwoAt wb w.heap.size (p : Int) ((q : Int) + 1) := by rw [hwb]; exact ⟨by go_simp, by go_simp⟩
  obtain ⟨bx, hbx⟩ : ∃ b, b = w.heap.size := ⟨_, rfl⟩
  rw [← hbx] at hbox
  have HV := Lib.hid (hv.ext xb)
  have HBX := Lib.hid hbx
  have HBOX := Lib.hid hbox
  have HWB := Lib.hid hwb
  have XB := Lib.hid xb
  obtain ⟨av, cv, rfl, hlv, hcap, hcv⟩ := hv
  unfold maxLen at hlv
  have DV := Lib.hid (fun h => (hcv h))
  have DW : Hid (0 < L.length → ∃ b off, av = some ⟨b, off, none⟩ ∧ ∀ j (h : j < L.length), wb.cell? ⟨b, off + j * 2, none⟩ = some (.int .i64 (L[j].1 : Int)) ∧ wb.cell? ⟨b, off + j * 2 + 1, none⟩ = some (.int .i64 ((L[j].2 : Int) + 1))) := Lib.hid (fun h => by
    obtain ⟨b, off, ha, hc⟩ := hcv h
    exact ⟨b, off, ha, fun j hj => ⟨xb.cell (hc j hj).1, xb.cell (hc j hj).2⟩⟩)
  clear hcv hcap xb hbox hbx hwb DV
  go_enter Try.func177, Try.ntmps177
  go_wp2
  rw [← HWB.out, ← HBX.out]
  go_loopw [5, 8] (fun _ i wr => ∃ k : Nat, k ≤ L.length ∧ i = .int .i64 k ∧ Hid ((p, q) ∉ L.take k) ∧ Hid (Ext wb wr)) (fun _ i _ => L.length - (intOf i).toNat)
  case atStart => exact ⟨0, Nat.zero_le _, rfl, Lib.hid (by simp), Lib.hid (Ext.refl _)⟩
  case round =>
    obtain ⟨k, hk, rfl, hA, hx⟩ := hrel
    by_cases hlt : k < L.length
    · obtain ⟨bv, ov, rfl, dv⟩ := DW.out (by omega)
      obtain ⟨y, hy⟩ : ∃ y, y = L[k] := ⟨_, rfl⟩
      have HYM : Hid (y ∈ L) := Lib.hid (by rw [hy]; exact List.getElem_mem hlt)
      have HYT : Hid ((p, q) ≠ y → (p, q) ∉ L.take (k + 1)) := Lib.hid (fun hn hm => by
        rw [List.take_succ_eq_append_getElem hlt, List.mem_append, List.mem_singleton] at hm
        rcases hm with h | h
        · exact hA.out h
        · exact hn (by rw [h, hy]))
      obtain ⟨g0, g1⟩ := dv k hlt
      rw [← hy] at g0 g1
      have g0 := hx.out.cell g0
      have g1 := hx.out.cell g1
      obtain ⟨f0, f1⟩ := HBOX.out.ext hx.out
      obtain ⟨p', q'⟩ := y
      have g0 := fun E : ExtOf wr => E.cell g0
      have g1 := fun E : ExtOf wr => E.cell g1
      have f0 := fun E : ExtOf wr => E.cell f0
      have f1 := fun E : ExtOf wr => E.cell f1
      clear dv hy hA
      by_cases e : p = p' ∧ q = q'
      · obtain ⟨rfl, rfl⟩ := e
        have HT : Hid (decide ((p, q) ∈ L) = true) := Lib.hid (decide_eq_true HYM.out)
        clear HYT HYM
        go_wp2_with fail
        refine wp_region_ext_lit (by kernel_rfl) (by kernel_rfl) ?_
        repeat (go_big_quiet_step (first | fail))
        refine wpQuiet_nil ?_
        rintro _ ⟨E, rfl⟩
        have XE := Lib.hid (hx.out.trans E.2)
        go_wp2
        go_ret
        exact ⟨(k : Int), rfl, by rw [HT.out]; simp, XB.out.trans XE.out⟩
      · have HN : Hid ((p, q) ∉ L.take (k + 1)) := Lib.hid (HYT.out (fun h => e (by simpa using h)))
        have hne : ¬ ((p : Int) = p') ∨ (p = p' ∧ ¬ ((q : Int) + 1 = (q' : Int) + 1)) := by omega
        clear e HYT HYM
        rcases hne with hn | ⟨rfl, hn⟩
        · go_wp2_with fail
          refine wp_region_ext_lit (by kernel_rfl) (by kernel_rfl) ?_
          repeat (go_big_quiet_step (first | fail))
          refine wpQuiet_nil ?_
          rintro _ ⟨E, rfl⟩
          have XE := Lib.hid (hx.out.trans E.2)
          go_wp2
          go_roundw
          case rel => exact ⟨k + 1, by omega, by go_num, HN, XE⟩
          case measure => simp [intOf]; omega
        · have hn2 : ¬ (q = q') := by omega
          go_wp2_with fail
          refine wp_region_ext_lit (by kernel_rfl) (by kernel_rfl) ?_
          repeat (go_big_quiet_step (first | fail))
          refine wpQuiet_nil ?_
          rintro _ ⟨E, rfl⟩
          have XE := Lib.hid (hx.out.trans E.2)
          go_wp2
          go_roundw
          case rel => exact ⟨k + 1, by omega, by go_num, HN, XE⟩
          case measure => simp [intOf]; omega
    · obtain rfl : k = L.length := by omega
      have HT : Hid (decide ((p, q) ∈ L) = false) := Lib.hid (decide_eq_false (by have := hA.out; rwa [List.take_length] at this))
      have XR := Lib.hid (XB.out.trans hx.out)
      clear hA
      go_wp2
      go_ret
      exact ⟨-1, rfl, by rw [HT.out]; decide, XR.out⟩

set_option maxHeartbeats 800000 in
theorem containsI_any (v : Value) (L : List (Nat × Nat)) (p q : Nat) (w : World) (hv : InstsAt w v L) : Calls Try.prog 164 #[v, .agg #[.int .i64 p, .int .i64 ((q : Int) + 1)]] w (BoolExt (decide ((p, q) ∈ L)) w) := by
  have HV := Lib.hid hv
  obtain ⟨av, cv, rfl, hlv, _, _⟩ := hv
  go_enter Try.func164, Try.ntmps164
  go_wp2_with fail
  have XA := Ext.alloc1 w (.cells #[.int .i64 p, .int .i64 ((q : Int) + 1)] 137)
  refine (indexI_any _ L p q _ (HV.out.ext XA)).mono ?_
  rintro e w1 ⟨n, rfl, hn, x1⟩
  have HN := Lib.hid hn
  clear hn
  go_wp2
  go_ret
  exact ⟨by rw [← HN.out]; rfl, XA.trans x1⟩

end Go.Proofs.Ythnoeknalpnadaa
