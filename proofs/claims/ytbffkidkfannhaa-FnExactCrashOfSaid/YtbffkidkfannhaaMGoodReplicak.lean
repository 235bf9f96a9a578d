/- Texts of this proof, part k: words, plain facts, contracts. -/
import Derived.Test.YtbffkidkfannhaaMGoodReplicaj
import Derived.WalkArith
import Derived.Test.YtbffkidkfannhaaMGoodReplicac
import Derived.Deep.RegionHeld3
import Derived.Sort.Grow
import Derived.Test.YtbffkidkfannhaaMGoodReplicaa
import Derived.Test.YtbffkidkfannhaaMGoodReplicai
import Derived.Test.YtbffkidkfannhaaMGoodReplicag

namespace Go.Proofs.Ytbffkidkfannhaa
open Go.RowKit
set_option linter.unusedVariables false

/-- An instance by its indices: its number is one more than q. -/
def instCom (T : List (List RowD)) (p q : Nat) : Bool := match (T[p]?.getD [])[q]? with
  | some r => r.st == 3
  | none => false
def instsAt (T : List (List RowD)) (p : Nat) : List (Nat × Nat) := ((List.range (T[p]?.getD []).length).filter (instCom T p)).map fun q => (p, q)
def instsTo (T : List (List RowD)) (k : Nat) : List (Nat × Nat) := (List.range k).flatMap (instsAt T)
def insts (T : List (List RowD)) : List (Nat × Nat) := instsTo T T.length
def pairOf (x : Nat × Nat) : List Int := [(x.1 : Int), (x.2 : Int) + 1]
def lexL (x y : Nat × Nat) : Prop := x.1 < y.1 ∨ (x.1 = y.1 ∧ x.2 < y.2)

theorem instCom_in {T : List (List RowD)} {p q : Nat} (hp : p < T.length) (hq : q < T[p].length) : instCom T p q = (T[p][q].st == 3) := by
  unfold instCom
  rw [List.getElem?_eq_getElem hp, Option.getD_some, List.getElem?_eq_getElem hq]
theorem instCom_lt {T : List (List RowD)} {p q : Nat} (h : instCom T p q = true) : ∃ (hp : p < T.length) (hq : q < T[p].length), T[p][q].st = 3 := by
  by_cases hp : p < T.length
  · by_cases hq : q < T[p].length
    · refine ⟨hp, hq, ?_⟩
      rw [instCom_in hp hq] at h
      simpa using h
    · unfold instCom at h
      rw [List.getElem?_eq_getElem hp, Option.getD_some, List.getElem?_eq_none (by omega)] at h
      cases h
  · unfold instCom at h
    rw [show T[p]? = none from List.getElem?_eq_none (by omega)] at h
    simp at h
theorem mem_insts {T : List (List RowD)} {x : Nat × Nat} : x ∈ insts T ↔ instCom T x.1 x.2 = true := by
  unfold insts instsTo instsAt
  constructor
  · intro h
    obtain ⟨p, hp, h⟩ := List.mem_flatMap.1 h
    obtain ⟨q, hq, rfl⟩ := List.mem_map.1 h
    exact (List.mem_filter.1 hq).2
  · intro h
    obtain ⟨hp, hq, hs⟩ := instCom_lt h
    refine List.mem_flatMap.2 ⟨x.1, List.mem_range.2 hp, List.mem_map.2 ⟨x.2, List.mem_filter.2 ⟨List.mem_range.2 ?_, h⟩, rfl⟩⟩
    rw [List.getElem?_eq_getElem hp]
    exact hq
theorem comAt_inst (T : List (List RowD)) (p i : Nat) : comAt p (T[p]?.getD []) i = if instCom T p i then [pairOf (p, i)] else [] := by
  unfold comAt instCom pairOf
  cases h : (T[p]?.getD [])[i]? with
  | none => rfl
  | some r => simp
theorem comTo_insts (T : List (List RowD)) (p m : Nat) : comTo p (T[p]?.getD []) m = ((List.range m).filter (instCom T p)).map fun q => pairOf (p, q) := by
  induction m with
  | zero => simp [comTo]
  | succ m ih =>
    rw [comTo_succ, ih, comAt_inst, List.range_succ, List.filter_append, List.map_append]
    congr 1
    cases h : instCom T p m <;> simp [h]
theorem allTo_insts (T : List (List RowD)) (k : Nat) : allTo T k = (instsTo T k).map pairOf := by
  unfold allTo instsTo
  rw [List.map_flatMap]
  congr 1
  funext p
  unfold instsAt
  rw [comTo_insts, List.map_map]
  rfl
theorem instsTo_lex (T : List (List RowD)) (k : Nat) : (instsTo T k).Pairwise lexL := by
  unfold instsTo
  induction k with
  | zero => simp
  | succ k ih =>
    rw [List.range_succ, List.flatMap_append]
    rw [List.pairwise_append]
    refine ⟨ih, ?_, ?_⟩
    · simp only [List.flatMap_cons, List.flatMap_nil, List.append_nil]
      unfold instsAt
      rw [List.pairwise_map]
      exact (List.pairwise_lt_range.filter _).imp fun h => .inr ⟨rfl, h⟩
    · intro a ha b hb
      obtain ⟨p, hp, ha⟩ := List.mem_flatMap.1 ha
      obtain ⟨q, _, rfl⟩ := List.mem_map.1 ha
      simp only [List.flatMap_cons, List.flatMap_nil, List.append_nil] at hb
      obtain ⟨q', _, rfl⟩ := List.mem_map.1 hb
      exact .inl (List.mem_range.1 hp)
theorem insts_lex (T : List (List RowD)) : (insts T).Pairwise lexL := instsTo_lex T _

/-- The last of a replica's instances on which a row hangs. -/
def depI (r : RowD) (p : Nat) : Int := r.l[p]?.getD 0
/-- Two rows interfere, and neither hangs on the other. -/
def cfl (n : Int) (T : List (List RowD)) (x y : Nat × Nat) : Bool :=
  interB (rowOf n T x.1 x.2).k (rowOf n T x.1 x.2).f (rowOf n T x.1 x.2).t (rowOf n T y.1 y.2).k (rowOf n T y.1 y.2).f (rowOf n T y.1 y.2).t &&
    (decide (depI (rowOf n T x.1 x.2) y.1 < (y.2 : Int) + 1) && decide (depI (rowOf n T y.1 y.2) x.1 < (x.2 : Int) + 1))
theorem interB_comm (k f t k' f' t' : Int) : interB k f t k' f' t' = interB k' f' t' k f t := by
  have h : ∀ l r : List Int, interL l r = true → interL r l = true := fun l r h => by
    unfold interL at h ⊢
    obtain ⟨x, hx, hr⟩ := List.any_eq_true.1 h
    exact List.any_eq_true.2 ⟨x, by simpa [hasI] using hr, by simpa [hasI] using hx⟩
  unfold interB
  rw [Bool.eq_iff_iff]
  exact ⟨h _ _, h _ _⟩
theorem cfl_comm (n : Int) (T : List (List RowD)) (x y : Nat × Nat) : cfl n T x y = cfl n T y x := by
  unfold cfl
  rw [interB_comm]
  congr 1
  exact Bool.and_comm _ _
/-- Of any two settled instances that interfere one hangs on the other. -/
def holdB (n : Int) (T : List (List RowD)) : Bool := (insts T).all fun x => (insts T).all fun y => decide (x = y) || !cfl n T x y
theorem holdB_no {n : Int} {T : List (List RowD)} {x y : Nat × Nat} (hx : x ∈ insts T) (hy : y ∈ insts T) (hne : x ≠ y) (h : cfl n T x y = true) : holdB n T = false := by
  unfold holdB
  rw [List.all_eq_false]
  refine ⟨x, hx, ?_⟩
  simp only [Bool.not_eq_true]
  rw [List.all_eq_false]
  exact ⟨y, hy, by simp [hne, h]⟩
theorem holdB_yes {n : Int} {T : List (List RowD)} (h : ∀ x ∈ insts T, ∀ y ∈ insts T, x ≠ y → cfl n T x y = false) : holdB n T = true := by
  unfold holdB
  rw [List.all_eq_true]
  intro x hx
  rw [List.all_eq_true]
  intro y hy
  by_cases e : x = y
  · simp [e]
  · simp [h x hx y hy e]
/-- .. by their places in the list. -/
theorem holdB_all {n : Int} {T : List (List RowD)} (h : ∀ a b (ha : a < (insts T).length) (hb : b < a), cfl n T ((insts T)[b]) ((insts T)[a]) = false) : holdB n T = true := by
  refine holdB_yes fun x hx y hy hne => ?_
  obtain ⟨a, ha, rfl⟩ := List.getElem_of_mem hx
  obtain ⟨b, hb, rfl⟩ := List.getElem_of_mem hy
  rcases Nat.lt_trichotomy a b with hl | rfl | hl
  · exact h b a hb hl
  · exact absurd rfl hne
  · rw [cfl_comm]; exact h a b ha hl
theorem insts_ne {T : List (List RowD)} {a b : Nat} (ha : a < (insts T).length) (hb : b < a) : (insts T)[b] ≠ (insts T)[a] := by
  have h := List.pairwise_iff_getElem.1 (insts_lex T) b a (by omega) ha hb
  intro e
  rw [e] at h
  unfold lexL at h
  omega

end Go.Proofs.Ytbffkidkfannhaa

namespace Go.Proofs.Ytbffkidkfannhaa
open Go.RowKit Go.Maps
set_option linter.unusedVariables false

theorem wf_small {x : Int} (h0 : 0 ≤ x) (h1 : x ≤ 1048577) : wf64 x := by
  exact WalkArith.wf_i64 (by omega)
/-! ### A table, its lists named -/
def RowsAt (w : World) (x : Value) (R : List RowD) (V : Nat → Value) : Prop :=
  ∃ ao cap, x = .slice ao R.length cap ∧ R.length ≤ maxLen ∧ (R.length ≤ cap ∧ cap ≤ maxLen ∧ (ao = none → cap = 0)) ∧
    (0 < R.length → ∃ b off, ao = some ⟨b, off, none⟩ ∧ ∀ j (h : j < R.length), RowIn w b (off + j * 10) R[j] (V j) ∧ Ints w (V j) R[j].l)
def TabAt (w : World) (u : Value) (T : List (List RowD)) (U : Nat → Nat → Value) : Prop :=
  ∃ ao cap, u = .slice ao T.length cap ∧ T.length ≤ maxLen ∧ (T.length ≤ cap ∧ cap ≤ maxLen ∧ (ao = none → cap = 0)) ∧
    (0 < T.length → ∃ b off, ao = some ⟨b, off, none⟩ ∧ ∀ j (h : j < T.length), ∃ x, w.cell? ⟨b, off + j, none⟩ = some x ∧ RowsAt w x T[j] (U j))
theorem RowsAt.ext {w w' : World} {x : Value} {R : List RowD} {V : Nat → Value} (h : RowsAt w x R V) (e : Ext w w') : RowsAt w' x R V := by
  obtain ⟨ao, cap, hv, hm, hcap, hc⟩ := h
  refine ⟨ao, cap, hv, hm, hcap, fun hp => ?_⟩
  obtain ⟨b, off, ha, hc⟩ := hc hp
  exact ⟨b, off, ha, fun j hj => ⟨(hc j hj).1.ext e, (hc j hj).2.ext e⟩⟩
theorem TabAt.ext {w w' : World} {u : Value} {T : List (List RowD)} {U : Nat → Nat → Value} (h : TabAt w u T U) (e : Ext w w') : TabAt w' u T U := by
  obtain ⟨ao, cap, hv, hm, hcap, hc⟩ := h
  refine ⟨ao, cap, hv, hm, hcap, fun hp => ?_⟩
  obtain ⟨b, off, ha, hc⟩ := hc hp
  refine ⟨b, off, ha, fun j hj => ?_⟩
  obtain ⟨x, hx, hr⟩ := hc j hj
  exact ⟨x, e.cell hx, hr.ext e⟩
theorem rowsAt_of {w : World} {x : Value} {R : List RowD} (h : Rowz w x R) : ∃ V, RowsAt w x R V := by
  obtain ⟨ao, cap, hv, hm, hcap, hc⟩ := h
  by_cases hp : 0 < R.length
  · obtain ⟨b, off, ha, hc⟩ := hc hp
    refine ⟨fun j => if h : j < R.length then Classical.choose (hc j h) else .bool false, ao, cap, hv, hm, hcap, fun _ => ⟨b, off, ha, fun j hj => ?_⟩⟩
    have := Classical.choose_spec (hc j hj)
    simp only [hj, dif_pos]
    exact this
  · exact ⟨fun _ => .bool false, ao, cap, hv, hm, hcap, fun h => absurd h hp⟩
theorem tabAt_of {w : World} {u : Value} {T : List (List RowD)} (h : Rowzz w u T) : ∃ U, TabAt w u T U := by
  obtain ⟨ao, cap, hv, hm, hcap, hc⟩ := h
  by_cases hp : 0 < T.length
  · obtain ⟨b, off, ha, hc⟩ := hc hp
    have hc' : ∀ j (h : j < T.length), ∃ V : Nat → Value, ∃ x, w.cell? ⟨b, off + j, none⟩ = some x ∧ RowsAt w x T[j] V := fun j hj => by
      obtain ⟨x, hx, hr⟩ := hc j hj
      obtain ⟨V, hV⟩ := rowsAt_of hr
      exact ⟨V, x, hx, hV⟩
    refine ⟨fun j => if h : j < T.length then Classical.choose (hc' j h) else fun _ => .bool false, ao, cap, hv, hm, hcap, fun _ => ⟨b, off, ha, fun j hj => ?_⟩⟩
    have := Classical.choose_spec (hc' j hj)
    simp only [hj, dif_pos]
    exact this
  · exact ⟨fun _ _ => .bool false, ao, cap, hv, hm, hcap, fun h => absurd h hp⟩

/-- A row as a value. -/
def rowV (r : RowD) (u : Value) : Value := .agg #[.int .i64 r.b, .int .i64 r.v, .int .i64 r.st, .int .i64 r.k, .int .i64 r.i, .int .i64 r.f, .int .i64 r.t, .int .i64 r.a, .int .i64 r.s, u]
def rowF (n : Int) (T : List (List RowD)) (U : Nat → Nat → Value) (p q : Nat) : Value := rowV (rowOf n T p q) (U p q)
/-- Is an instance in a table's lists? -/
def inT (T : List (List RowD)) (p q : Nat) : Bool := decide (q < (T[p]?.getD []).length)
theorem inT_of {T : List (List RowD)} {p q : Nat} (h : inT T p q = true) : ∃ (hp : p < T.length), q < T[p].length := by
  unfold inT at h
  have h' := of_decide_eq_true h
  by_cases hp : p < T.length
  · rw [List.getElem?_eq_getElem hp] at h'
    exact ⟨hp, h'⟩
  · rw [List.getElem?_eq_none (by omega)] at h'
    simp at h'
theorem inT_mk {T : List (List RowD)} {p q : Nat} (hp : p < T.length) (hq : q < T[p].length) : inT T p q = true := by
  unfold inT
  rw [List.getElem?_eq_getElem hp]
  exact decide_eq_true hq
/-- The lists of all rows read. -/
def Lists (w : World) (n : Int) (T : List (List RowD)) (U : Nat → Nat → Value) : Prop := ∀ p q, inT T p q = true → Ints w (U p q) (rowOf n T p q).l
theorem Lists.ext {w w' : World} {n : Int} {T : List (List RowD)} {U : Nat → Nat → Value} (h : Lists w n T U) (e : Ext w w') : Lists w' n T U := fun p q hi => (h p q hi).ext e
theorem TabAt.lists {w : World} {u : Value} {T : List (List RowD)} {U : Nat → Nat → Value} (n : Int) (h : TabAt w u T U) : Lists w n T U := by
  intro p q hi
  obtain ⟨hp, hq⟩ := inT_of hi
  obtain ⟨_, _, _, _, _, hc⟩ := h
  obtain ⟨b, off, _, hc⟩ := hc (by omega)
  obtain ⟨x, _, hr⟩ := hc p hp
  obtain ⟨_, _, _, _, _, hr⟩ := hr
  obtain ⟨b', off', _, hr⟩ := hr (by omega)
  rw [rowOf_in hp hq]
  exact (hr q hq).2

/-! ### A map that holds values -/
/-- How an element reads here: as itself. -/
def asIs (v : Value) : Option (DataW Value × List MemPlace) := some (.held v, [])

/-- The map holds just the instances of S, each with its value. -/
structure MapOf (D : DataW Value) (S : Nat → Nat → Bool) (f : Nat → Nat → Value) : Prop where
  isMap : Maps.IsMap D
  low : ∀ p q, S p q = true → p ≤ 1048576 ∧ q ≤ 1048576
  has : ∀ p q, S p q = true → Maps.has D (kl p ((q : Int) + 1)) = true
  val : ∀ p q, S p q = true → ∀ z, D.atKey (kl p ((q : Int) + 1)) z = .held (f p q)
  keys : ∀ l, Maps.has D l = true → ∃ p q : Nat, l = kl (p : Int) ((q : Int) + 1) ∧ S p q = true
theorem MapOf.empty (f : Nat → Nat → Value) : MapOf (.map []) (fun _ _ => false) f :=
  ⟨⟨_, rfl⟩, (fun _ _ h => by cases h), (fun _ _ h => by cases h), (fun _ _ h => by cases h), (fun l h => by cases h)⟩
theorem MapOf.congr {D : DataW Value} {S S' : Nat → Nat → Bool} {f f' : Nat → Nat → Value} (h : MapOf D S f) (hs : ∀ p q, S' p q = S p q) (hf : ∀ p q, S p q = true → f' p q = f p q) : MapOf D S' f' :=
  ⟨h.isMap, fun p q e => h.low p q (by rw [← hs]; exact e), fun p q e => h.has p q (by rw [← hs]; exact e), fun p q e z => by rw [hs] at e; rw [hf p q e]; exact h.val p q e z, fun l hl => by
    obtain ⟨p, q, e, hS⟩ := h.keys l hl
    exact ⟨p, q, e, by rw [hs]; exact hS⟩⟩
theorem kl_ne {p q p' q' : Nat} (h1 : p ≤ 1048576 ∧ q ≤ 1048576) (h2 : p' ≤ 1048576 ∧ q' ≤ 1048576) (h : ¬ (p = p' ∧ q = q')) : kl (p : Int) ((q : Int) + 1) ≠ kl (p' : Int) ((q' : Int) + 1) := by
  intro e
  obtain ⟨a, b⟩ := kl_inj (wf_small (by omega) (by omega)) (wf_small (by omega) (by omega)) (wf_small (by omega) (by omega)) (wf_small (by omega) (by omega)) e
  omega
theorem MapOf.put {D : DataW Value} {S : Nat → Nat → Bool} {f : Nat → Nat → Value} (h : MapOf D S f) {p q : Nat} (hl : p ≤ 1048576 ∧ q ≤ 1048576) {v : Value} (hv : f p q = v) :
    MapOf (D.put (kl p ((q : Int) + 1)) (.held v)) (fun p' q' => S p' q' || (decide (p' = p) && decide (q' = q))) f := by
  have hk : WideAt.IsKeyLit (kl p ((q : Int) + 1)) := instKeyed.key (keyOf_inst (wf_small (by omega) (by omega)) (wf_small (by omega) (by omega)))
  have hS : ∀ p' q', (S p' q' || (decide (p' = p) && decide (q' = q))) = true → (p' = p ∧ q' = q) ∨ S p' q' = true := fun p' q' hs => by
    rcases Bool.or_eq_true_iff.1 hs with hs | hs
    · exact .inr hs
    · simp at hs; exact .inl hs
  refine ⟨h.isMap.put _ _, fun p' q' hs => ?_, fun p' q' hs => ?_, fun p' q' hs z => ?_, fun l hl' => ?_⟩
  · rcases hS p' q' hs with ⟨rfl, rfl⟩ | hs
    · exact hl
    · exact h.low p' q' hs
  · by_cases e : p' = p ∧ q' = q
    · obtain ⟨rfl, rfl⟩ := e
      exact Maps.has_put_same h.isMap hk _
    · have hs' := (hS p' q' hs).resolve_left e
      rw [Maps.has_put_other (kl_ne (h.low _ _ hs') hl e)]
      exact h.has p' q' hs'
  · by_cases e : p' = p ∧ q' = q
    · obtain ⟨rfl, rfl⟩ := e
      rw [Maps.atKey_put_same h.isMap hk, hv]
    · have hs' := (hS p' q' hs).resolve_left e
      rw [Maps.atKey_put_other (kl_ne (h.low _ _ hs') hl e)]
      exact h.val p' q' hs' z
  · by_cases e : l = kl p ((q : Int) + 1)
    · refine ⟨p, q, e, ?_⟩
      simp
    · rw [Maps.has_put_other e] at hl'
      obtain ⟨p', q', e', hs⟩ := h.keys l hl'
      refine ⟨p', q', e', ?_⟩
      simp [hs]
theorem MapOf.del {D : DataW Value} {S : Nat → Nat → Bool} {f : Nat → Nat → Value} (h : MapOf D S f) {p q : Nat} (hl : p ≤ 1048576 ∧ q ≤ 1048576) :
    MapOf (D.del (kl p ((q : Int) + 1))) (fun p' q' => S p' q' && !(decide (p' = p) && decide (q' = q))) f := by
  have hS : ∀ p' q', (S p' q' && !(decide (p' = p) && decide (q' = q))) = true → S p' q' = true ∧ ¬ (p' = p ∧ q' = q) := fun p' q' hs => by
    simp at hs
    exact ⟨hs.1, by omega⟩
  refine ⟨h.isMap.del _, fun p' q' hs => h.low p' q' (hS p' q' hs).1, fun p' q' hs => ?_, fun p' q' hs z => ?_, fun l hl' => ?_⟩
  · obtain ⟨hs, e⟩ := hS p' q' hs
    rw [Maps.has_del_other (kl_ne (h.low _ _ hs) hl e)]
    exact h.has p' q' hs
  · obtain ⟨hs, e⟩ := hS p' q' hs
    rw [Maps.atKey_del_other (kl_ne (h.low _ _ hs) hl e)]
    exact h.val p' q' hs z
  · by_cases e : l = kl p ((q : Int) + 1)
    · subst e
      rw [Maps.has_del_same] at hl'
      cases hl'
    · rw [Maps.has_del_other e] at hl'
      obtain ⟨p', q', e', hs⟩ := h.keys l hl'
      refine ⟨p', q', e', ?_⟩
      simp only [hs, Bool.true_and, Bool.not_eq_true']
      by_cases e2 : p' = p ∧ q' = q
      · obtain ⟨rfl, rfl⟩ := e2
        exact absurd e' e
      · simpa using e2

/-! ### kept -/
theorem Ext.grownNone {w w' : World} (e : Ext w w') : w.grownBy w' none := ⟨e.os, e.tape, e.output, e.size, fun k hk _ => Below.block e k hk⟩
abbrev RowMap (w : World) (b n : Nat) (D : DataW Value) : Prop := w.ownsMap Try.prog 74 asIs b n D
abbrev RowRange (w : World) (b r n : Nat) (D : DataW Value) (left : Lit → Bool) (cnt : Nat) : Prop := w.ranges Try.prog 74 asIs b r n D left cnt
theorem RowMap.ext {w w' : World} {b n : Nat} {D : DataW Value} (h : RowMap w b n D) (e : Ext w w') : RowMap w' b n D := h.kept e.grownNone (by simp)
theorem RowRange.ext {w w' : World} {b r n : Nat} {D : DataW Value} {left : Lit → Bool} {cnt : Nat} (h : RowRange w b r n D left cnt) (e : Ext w w') : RowRange w' b r n D left cnt := h.kept e.grownNone (by simp) (by simp)

/-- THE STEP of a range over such a map. -/
theorem wpList_next_inst (w : World) {ops : Array Oper} {rest : List Oper} {o : Oper} {a : Act} {Q : Exit → Act → World → Prop} (hg : o.guard = none) (it : Operand) (hop : o.op = Op.next it false)
    (b r n : Nat) (D : DataW Value) (left : Lit → Bool) (cnt : Nat) (S : Nat → Nat → Bool) (f : Nat → Nat → Value)
    (hit : a.eval it = .pointer (some ⟨r, 0, none⟩)) (h : RowRange w b r n D left cnt) (hM : MapOf D S f)
    (hDone : (∀ l, left l = false) → wpList Try.prog ops Q rest (a.put o.dst (.tuple #[.bool false])) w)
    (hMore : ∀ (p q : Nat) (w' : World) (cnt' : Nat), S p q = true → left (kl p ((q : Int) + 1)) = true → RowRange w' b r n D (fun z => left z && !z.sameKey (kl p ((q : Int) + 1))) cnt' → cnt' < cnt →
      w.grownBy w' (some r) → w'.heap.size = w.heap.size → (Instr.entry (.pointer (some ⟨r, 0, none⟩))).run Try.prog w' = .ok (.tuple #[.agg #[.int .i64 p, .int .i64 ((q : Int) + 1)], f p q]) w' →
        wpList Try.prog ops Q rest (a.put o.dst (.tuple #[.bool true, .agg #[.int .i64 p, .int .i64 ((q : Int) + 1)], f p q])) w') :
    wpList Try.prog ops Q (o :: rest) a w := by
  refine wpList_next_ranges w hg it hop 74 instKeyed asIs (fun x : Int × Int => instV x.1 x.2) (fun v : Value => v) (fun key l hk => ?_) (fun v y _ => ⟨v, rfl⟩) b r n D left cnt hit h (fun _ hl => hDone hl) ?_
  · obtain ⟨x, y, hv, _⟩ := keyOf_inst_inv hk
    exact ⟨(x, y), hv⟩
  · intro x c l y w' cnt' hkey hlk hv hat hrg hlt hgr hsz hen
    obtain ⟨x1, x2⟩ := x
    obtain ⟨a', b', e1, e2, wa, wb⟩ := keyOf_inst_inv hkey
    simp only [instV] at e1 hen
    obtain ⟨p, q, e3, hS⟩ := hM.keys l (Maps.has_true_of_atKey hat)
    have hlow := hM.low p q hS
    have hinj := kl_inj wa wb (wf_small (by omega) (by omega)) (wf_small (by omega) (by omega)) (e2.symm.trans e3)
    obtain ⟨rfl, rfl⟩ := hinj
    simp only [Value.agg.injEq, Array.mk.injEq, List.cons.injEq, Value.int.injEq, true_and, and_true] at e1
    obtain ⟨rfl, rfl⟩ := e1
    rw [e3] at hat hlk hrg
    have hc := (hM.val p q hS .nil).symm.trans (hat .nil)
    simp only [asIs, Option.some.injEq] at hv
    rw [← hv] at hc
    simp only [DataW.held.injEq] at hc
    rw [← hc] at hen ⊢
    exact hMore p q w' cnt' hS hlk hrg hlt hgr hsz hen


end Go.Proofs.Ytbffkidkfannhaa

namespace Go.Proofs.Ytbffkidkfannhaa
open Go.RowKit
set_option linter.unusedVariables false

/-- An instance's two cells. -/
def cellsI (x : Nat × Nat) : List Value := [.int .i64 x.1, .int .i64 ((x.2 : Int) + 1)]
def flatI (L : List (Nat × Nat)) : List Value := L.flatMap cellsI
theorem flatI_len (L : List (Nat × Nat)) : (flatI L).length = L.length * 2 := by
  unfold flatI
  induction L with
  | nil => rfl
  | cons x t ih => rw [List.flatMap_cons, List.length_append, ih]; simp [cellsI]; omega
theorem flatI_at {L : List (Nat × Nat)} {j : Nat} (h : j < L.length) : (flatI L)[j * 2]? = some (.int .i64 (L[j].1 : Int)) ∧ (flatI L)[j * 2 + 1]? = some (.int .i64 ((L[j].2 : Int) + 1)) := by
  induction L generalizing j with
  | nil => simp at h
  | cons x t ih =>
    unfold flatI
    rw [List.flatMap_cons]
    cases j with
    | zero => simp [cellsI]
    | succ j =>
      have h' : j < t.length := by simpa using h
      obtain ⟨i1, i2⟩ := ih h'
      unfold flatI at i1 i2
      have e1 : (j + 1) * 2 = (cellsI x).length + j * 2 := by simp [cellsI]; omega
      refine ⟨?_, ?_⟩
      · rw [e1, List.getElem?_append_right (by omega), Nat.add_sub_cancel_left, i1]
        simp
      · rw [e1, Nat.add_assoc, List.getElem?_append_right (by omega), Nat.add_sub_cancel_left, i2]
        simp

/-- v is a slice of instances of a block that was made from block number B on. -/
def FreshIn (B : Nat) (w : World) (v : Value) (L : List (Nat × Nat)) : Prop := w.ownsRow B 74 2 v L.length (flatI L)
theorem FreshIn.nil (B : Nat) (w : World) : FreshIn B w (.slice none 0 0) [] := ⟨rfl, .inl ⟨rfl, rfl⟩⟩
theorem FreshIn.ext {B : Nat} {w w' : World} {v : Value} {L : List (Nat × Nat)} (h : FreshIn B w v L) (e : Ext w w') : FreshIn B w' v L := e.ownsRow h

/-- v is a slice that reads as the instances L in w. -/
def InstsAt (w : World) (v : Value) (L : List (Nat × Nat)) : Prop :=
  ∃ ao cap, v = .slice ao L.length cap ∧ L.length ≤ maxLen ∧ (L.length ≤ cap ∧ cap ≤ maxLen ∧ (ao = none → cap = 0)) ∧
    (0 < L.length → ∃ b off, ao = some ⟨b, off, none⟩ ∧ ∀ j (h : j < L.length), w.cell? ⟨b, off + j * 2, none⟩ = some (.int .i64 (L[j].1 : Int)) ∧ w.cell? ⟨b, off + j * 2 + 1, none⟩ = some (.int .i64 ((L[j].2 : Int) + 1)))
theorem InstsAt.ext {w w' : World} {v : Value} {L : List (Nat × Nat)} (h : InstsAt w v L) (e : Ext w w') : InstsAt w' v L := by
  obtain ⟨ao, cap, hv, hm, hcap, hc⟩ := h
  refine ⟨ao, cap, hv, hm, hcap, fun hp => ?_⟩
  obtain ⟨b, off, ha, hc⟩ := hc hp
  exact ⟨b, off, ha, fun j hj => ⟨e.cell (hc j hj).1, e.cell (hc j hj).2⟩⟩
theorem FreshIn.at {B : Nat} {w : World} {v : Value} {L : List (Nat × Nat)} (h : FreshIn B w v L) : InstsAt w v L := by
  rcases h.2 with ⟨rfl, hn⟩ | ⟨g, cap, cur, rfl, hb, hg, hnc, hcm, hcs, htake⟩
  · obtain rfl : L = [] := List.eq_nil_of_length_eq_zero hn
    exact ⟨none, 0, rfl, by simp, ⟨by simp, by simp, fun _ => rfl⟩, fun h => by simp at h⟩
  · refine ⟨some ⟨g, 0, none⟩, cap, rfl, by omega, ⟨by omega, by omega, fun h => by cases h⟩, fun _ => ⟨g, 0, rfl, fun j hj => ?_⟩⟩
    have hc1 := World.ownsRow.cellAt h (j * 2) (by omega)
    have hc2 := World.ownsRow.cellAt h (j * 2 + 1) (by omega)
    obtain ⟨f1, f2⟩ := flatI_at hj
    rw [Nat.zero_add]
    exact ⟨hc1.trans f1, hc2.trans f2⟩

theorem Try.infoInst : (Try.prog.info? 74).map (fun i => (i.zero, i.size, i.bytes)) = some (some (.agg #[.int .i64 0, .int .i64 0]), 2, 16) := by kernel_rfl

end Go.Proofs.Ytbffkidkfannhaa

namespace Go.Proofs.Ytbffkidkfannhaa
open Go.RowKit
set_option linter.unusedVariables false

def cmpI (a b : Int) : Int := if a < b then -1 else if b < a then 1 else 0
def cmpL : List Int → List Int → Int
  | [], [] => 0
  | [], _ :: _ => -1
  | _ :: _, [] => 1
  | a :: s, b :: t => if cmpI a b = 0 then cmpL s t else cmpI a b

/-- A number comes back, and the world is as it was. -/
def IntSame (n : Int) (w : World) (e : Ending) (w' : World) : Prop := e = .returned (.int .i64 n) ∧ w' = w

set_option maxHeartbeats 1000000 in
theorem compareInt_any (a b : Int) (w : World) : Calls Try.prog 70 #[.int .i64 a, .int .i64 b] w (IntSame (cmpI a b) w) := by
  have hnan : ∀ (n : Int) (W : World), Calls Try.prog 97 #[.int .i64 n] W (fun e W' => e = .returned (.bool false) ∧ W' = W) := fun n W => by
    go_enter Try.func97, Try.ntmps97
    go_wp2
    go_ret
    exact ⟨rfl, rfl⟩
  go_enter Try.func70, Try.ntmps70
  by_cases h1 : a < b
  · have e : cmpI a b = -1 := by unfold cmpI; rw [if_pos h1]
    rw [e]
    clear e
    go_wp2_with fail
    refine (hnan a _).mono ?_
    rintro e w1 ⟨rfl, rfl⟩
    go_wp2_with fail
    refine (hnan b _).mono ?_
    rintro e w1 ⟨rfl, rfl⟩
    go_wp2
    go_ret
    exact ⟨rfl, rfl⟩
  · by_cases h2 : b < a
    · have e : cmpI a b = 1 := by unfold cmpI; rw [if_neg h1, if_pos h2]
      rw [e]
      clear e
      go_wp2_with fail
      refine (hnan a _).mono ?_
      rintro e w1 ⟨rfl, rfl⟩
      go_wp2_with fail
      refine (hnan b _).mono ?_
      rintro e w1 ⟨rfl, rfl⟩
      go_wp2
      go_ret
      exact ⟨rfl, rfl⟩
    · have e : cmpI a b = 0 := by unfold cmpI; rw [if_neg h1, if_neg h2]
      rw [e]
      clear e
      go_wp2_with fail
      refine (hnan a _).mono ?_
      rintro e w1 ⟨rfl, rfl⟩
      go_wp2_with fail
      refine (hnan b _).mono ?_
      rintro e w1 ⟨rfl, rfl⟩
      go_wp2
      go_ret
      exact ⟨rfl, rfl⟩

theorem cmpL_step : ∀ (l r : List Int) (k : Nat) (hk : k < l.length) (hr : k < r.length) (h : cmpL l r = cmpL (l.drop k) (r.drop k)), (cmpI l[k] r[k] = 0 → cmpL l r = cmpL (l.drop (k + 1)) (r.drop (k + 1))) ∧ (cmpI l[k] r[k] ≠ 0 → cmpL l r = cmpI l[k] r[k]) := by
  intro l r k hk hr h
  rw [List.drop_eq_getElem_cons hk, List.drop_eq_getElem_cons hr] at h
  have e4 : cmpL (l[k] :: l.drop (k + 1)) (r[k] :: r.drop (k + 1)) = if cmpI l[k] r[k] = 0 then cmpL (l.drop (k + 1)) (r.drop (k + 1)) else cmpI l[k] r[k] := by simp only [cmpL]
  rw [e4] at h
  constructor
  · intro e; rw [h, if_pos e]
  · intro e; rw [h, if_neg e]

end Go.Proofs.Ytbffkidkfannhaa

namespace Go.Proofs.Ytbffkidkfannhaa
open Go.RowKit Go.Sort
set_option linter.unusedVariables false

/-- w' is w after some draws, with new blocks. -/
def Grows (w w' : World) : Prop := ∃ (q : Nat) (os : Array Obj), w' = grow (w.drewN q) os
theorem Grows.refl (w : World) : Grows w w := ⟨0, #[], by rw [grow_empty]; rfl⟩
theorem Grows.drew {w w' : World} (h : Grows w w') : Grows w w'.drew := by
  obtain ⟨q, os, rfl⟩ := h
  exact ⟨q + 1, os, rfl⟩
theorem Grows.alloc {w w' : World} (h : Grows w w') (o : Obj) : Grows w (w'.alloc o) := by
  obtain ⟨q, os, rfl⟩ := h
  refine ⟨q, os.push o, ?_⟩
  simp [grow, World.alloc, World.drewN]
theorem Grows.trans {a b c : World} (h : Grows a b) (k : Grows b c) : Grows a c := by
  obtain ⟨q, os, rfl⟩ := h
  obtain ⟨q', os', rfl⟩ := k
  exact ⟨q + q', os ++ os', by simp [grow, World.drewN, Nat.add_assoc]⟩
theorem Grows.ext {w w' : World} (h : Grows w w') : Ext w w' := by
  obtain ⟨q, os, rfl⟩ := h
  refine ext_of_grown ⟨rfl, rfl, rfl, by simp [grow, World.drewN], fun k hk _ => ?_⟩
  exact heap_grow_old (w.drewN q) os hk

def cmpP (x y : Nat × Nat) : Int := if cmpI (x.1 : Int) (y.1 : Int) = 0 then cmpI ((x.2 : Int) + 1) ((y.2 : Int) + 1) else cmpI (x.1 : Int) (y.1 : Int)

/-- The first that is not nought. -/
def orL : List Int → Int
  | [] => 0
  | x :: t => if x = 0 then orL t else x
theorem orL_drop {l : List Int} {k : Nat} (h : k < l.length) : orL (l.drop k) = if l[k]?.getD 0 = 0 then orL (l.drop (k + 1)) else l[k]?.getD 0 := by
  rw [List.drop_eq_getElem_cons h, List.getElem?_eq_getElem h, Option.getD_some]
  rfl
set_option maxHeartbeats 1000000 in
theorem orInt_any (l : List Int) (v : Value) (w : World) (hv : Ints w v l) :
    Calls Try.prog 69 #[v] w (IntSame (orL l) w) := by
  obtain ⟨av, cv, rfl, hlv, _, hcv⟩ := hv
  unfold maxLen at hlv
  go_enter Try.func69, Try.ntmps69
  go_wp2
  go_loopw [8] (fun i wr => ∃ k : Nat, k ≤ l.length ∧ i = .int .i64 k ∧ Hid (orL l = orL (l.drop k)) ∧ wr = w) (fun i _ => l.length - (intOf i).toNat)
  case atStart => exact ⟨0, Nat.zero_le _, rfl, Lib.hid (by simp), rfl⟩
  case round =>
    obtain ⟨k, hk, rfl, HK, rfl⟩ := hrel
    by_cases hlt : k < l.length
    · obtain ⟨bv, ov, rfl, dv⟩ := hcv (by omega)
      have gv := dv k hlt
      have hs := orL_drop hlt
      obtain ⟨x, hx⟩ : ∃ x, x = l[k]?.getD 0 := ⟨_, rfl⟩
      rw [← hx] at gv hs
      have HS := Lib.hid hs
      clear dv hcv hx hs
      by_cases h0 : x = 0
      · subst h0
        have HN := Lib.hid (show orL l = orL (l.drop (k + 1)) by rw [HK.out, HS.out, if_pos rfl])
        have ns : ((0 : Int) != 0) = false := by simp
        go_wp2
        go_roundw
        case rel => exact ⟨k + 1, by omega, by go_num, HN, by trivial⟩
        case measure => simp [intOf]; omega
      · have HN := Lib.hid (show orL l = x by rw [HK.out, HS.out, if_neg h0])
        have ns : (x != 0) = true := by simpa using h0
        go_wp2
        go_ret
        exact ⟨by rw [HN.out]; rfl, rfl⟩
    · obtain rfl : k = l.length := by omega
      have HN := Lib.hid (show orL l = 0 by rw [HK.out, List.drop_length]; rfl)
      clear HK
      go_wp2
      go_ret
      exact ⟨by rw [HN.out]; rfl, rfl⟩
theorem orInt_two (x y : Int) (v : Value) (w : World) (hv : Ints w v [x, y]) :
    Calls Try.prog 69 #[v] w (IntSame (if x = 0 then y else x) w) := by
  have h := orInt_any _ _ _ hv
  have e : orL [x, y] = if x = 0 then y else x := by
    unfold orL orL orL
    by_cases hx : x = 0
    · by_cases hy : y = 0 <;> simp [hx, hy]
    · simp [hx]
  rwa [e] at h

theorem orHere (w0 : World) (a b : Int) : Calls Try.prog 69 #[.slice (some ⟨w0.heap.size, 0, none⟩) 2 2] (w0.alloc (.cells #[.int .i64 a, .int .i64 b] 3)).drew (IntSame (if a = 0 then b else a) (w0.alloc (.cells #[.int .i64 a, .int .i64 b] 3)).drew) := by
  have h := (fresh_lit w0 [a, b] #[.int .i64 a, .int .i64 b] w0.heap.size rfl (Nat.le_refl _) (by simp)).ints
  exact orInt_two a b _ _ (h.ext (Ext.drew (Ext.refl _)))

end Go.Proofs.Ytbffkidkfannhaa

namespace Go.Proofs.Ytbffkidkfannhaa
open Go.RowKit Go.Sort
set_option linter.unusedVariables false

def cmp2 (a b c d : Int) : Int := if cmpI a c = 0 then cmpI b d else cmpI a c
set_option maxHeartbeats 2000000 in
set_option maxRecDepth 100000 in
theorem cmpInst_any (p q p' q' : Int) (w : World) :
    Calls Try.prog 33 #[.agg #[.int .i64 p, .int .i64 q], .agg #[.int .i64 p', .int .i64 q']] w (fun e w' => e = .returned (.int .i64 (cmp2 p q p' q')) ∧ Grows w w') := by
  unfold cmp2
  obtain ⟨r, hr⟩ : ∃ r, r = if cmpI p p' = 0 then cmpI q q' else cmpI p p' := ⟨_, rfl⟩
  have cO : ∀ w0 : World, Calls Try.prog 69 #[.slice (some ⟨w0.heap.size, 0, none⟩) 2 2] (w0.alloc (.cells #[.int .i64 (cmpI p p'), .int .i64 (cmpI q q')] 3)).drew (IntSame r (w0.alloc (.cells #[.int .i64 (cmpI p p'), .int .i64 (cmpI q q')] 3)).drew) := fun w0 => by
    rw [hr]
    exact orHere w0 _ _
  have CO := Lib.hid cO
  rw [← hr]
  clear hr cO
  obtain ⟨w0, hw0⟩ : ∃ w0, w0 = (w.alloc (.cells #[.int .i64 p, .int .i64 q] 74)).alloc (.cells #[.int .i64 p', .int .i64 q'] 74) := ⟨_, rfl⟩
  have g0 : Grows w w0 := by rw [hw0]; exact (Grows.refl w).alloc _ |>.alloc _
  have c0 : w0.cell? ⟨w.heap.size, 0, none⟩ = some (.int .i64 p) := by rw [hw0]; go_simp
  have c1 : w0.cell? ⟨w.heap.size, 1, none⟩ = some (.int .i64 q) := by rw [hw0]; go_simp
  have c2 : w0.cell? ⟨w.heap.size + 1, 0, none⟩ = some (.int .i64 p') := by rw [hw0]; go_simp
  have c3 : w0.cell? ⟨w.heap.size + 1, 1, none⟩ = some (.int .i64 q') := by rw [hw0]; go_simp
  have ks : ∀ W, Grows w0 W → Grows w0 W ∧ W.cell? ⟨w.heap.size, 0, none⟩ = some (.int .i64 p) ∧ W.cell? ⟨w.heap.size, 1, none⟩ = some (.int .i64 q) ∧ W.cell? ⟨w.heap.size + 1, 0, none⟩ = some (.int .i64 p') ∧ W.cell? ⟨w.heap.size + 1, 1, none⟩ = some (.int .i64 q') := fun W h => ⟨h, h.ext.cell c0, h.ext.cell c1, h.ext.cell c2, h.ext.cell c3⟩
  clear c0 c1 c2 c3
  subst hw0
  have KS := Lib.hid ks
  have G0 := Lib.hid g0
  clear ks g0
  go_enter Try.func33, Try.ntmps33
  go_wp2_with fail
  generalize ((w.alloc (.cells #[.int .i64 p, .int .i64 q] 74)).alloc (.cells #[.int .i64 p', .int .i64 q'] 74)) = w0 at KS G0 ⊢
  go_region_held3 (fun W => Grows w0 W ∧ W.cell? ⟨w.heap.size, 0, none⟩ = some (.int .i64 p) ∧ W.cell? ⟨w.heap.size, 1, none⟩ = some (.int .i64 q) ∧ W.cell? ⟨w.heap.size + 1, 0, none⟩ = some (.int .i64 p') ∧ W.cell? ⟨w.heap.size + 1, 1, none⟩ = some (.int .i64 q')) (first | (with_reducible exact KS.out _ (Grows.drew (Grows.refl _))) | (with_reducible exact KS.out _ (Grows.drew (Grows.alloc (Grows.refl _) _))) | (with_reducible exact KS.out _ (Grows.alloc (Grows.drew (Grows.refl _)) _)) | (trace_state; fail)) (first | (go_at_call 70; refine (compareInt_any _ _ _).mono ?_; rintro e W3 ⟨rfl, rfl⟩) | (go_at_call 69; refine (CO.out _).mono ?_; rintro e W3 ⟨rfl, rfl⟩))
  all_goals
    go_wp2
    go_ret
    exact ⟨rfl, G0.out.trans (Grows.drew (Grows.alloc (Grows.refl _) _))⟩
end Go.Proofs.Ytbffkidkfannhaa

namespace Go.Proofs.Ytbffkidkfannhaa
open Go.RowKit
set_option linter.unusedVariables false

def RepAt (w : World) (b : Nat) (me n : Int) (u v : Value) : Prop :=
  w.cell? ⟨b, 0, none⟩ = some (.int .i64 me) ∧ w.cell? ⟨b, 1, none⟩ = some (.int .i64 n) ∧ w.cell? ⟨b, 2, none⟩ = some u ∧ w.cell? ⟨b, 3, none⟩ = some v
theorem RepAt.ext {w w' : World} {b : Nat} {me n : Int} {u v : Value} (h : RepAt w b me n u v) (e : Ext w w') : RepAt w' b me n u v :=
  ⟨e.cell h.1, e.cell h.2.1, e.cell h.2.2.1, e.cell h.2.2.2⟩
theorem repAt_new (w : World) (T : TypeId) (me n : Int) (u v : Value) : RepAt (w.alloc (.cells #[.int .i64 me, .int .i64 n, u, v] T)) w.heap.size me n u v := by
  refine ⟨?_, ?_, ?_, ?_⟩ <;> go_simp
theorem two_reps (w : World) (T T' : TypeId) (me n me' n' : Int) (u u' v v' : Value) :
    RepAt ((w.alloc (.cells #[.int .i64 me, .int .i64 n, u, v] T)).alloc (.cells #[.int .i64 me', .int .i64 n', u', v'] T')) w.heap.size me n u v ∧ RepAt ((w.alloc (.cells #[.int .i64 me, .int .i64 n, u, v] T)).alloc (.cells #[.int .i64 me', .int .i64 n', u', v'] T')) (w.heap.size + 1) me' n' u' v' := by
  refine ⟨(repAt_new _ _ _ _ _ _).ext (Ext.alloc (Ext.refl _) _), ?_⟩
  have h := repAt_new (w.alloc (.cells #[.int .i64 me, .int .i64 n, u, v] T)) T' me' n' u' v'
  rw [World.size_alloc] at h
  exact h
end Go.Proofs.Ytbffkidkfannhaa

namespace Go.Proofs.Ytbffkidkfannhaa
open Go.RowKit
set_option linter.unusedVariables false

/-- Whether a lead stands ahead of another. -/
def lexD (p d : LeadD) : Bool := !(decide (d.rp < p.rp)) && !(p.rp == d.rp && decide (d.no ≤ p.no))
/-- Whether the lead at place k is good and stands behind the one ahead of it. -/
def stepL (n me : Int) (L : List LeadD) (k : Nat) : Bool :=
  match L[k]? with
  | none => true
  | some d => leadB n me d && (match k with
    | 0 => true
    | j + 1 => match L[j]? with
      | none => true
      | some p => lexD p d)
def leadsB (n me : Int) (L : List LeadD) : Bool := (List.range L.length).all (stepL n me L)
def goodRep (me n : Int) (T : List (List RowD)) (L : List LeadD) : Bool := goodTab n T && (inB me 0 (n - 1) && leadsB n me L)
theorem step_succ {n me : Int} {L : List LeadD} {k : Nat} (h : ∀ j, j < k → stepL n me L j = true) (hk : stepL n me L k = true) : ∀ j, j < k + 1 → stepL n me L j = true := fun j hj => by
  by_cases e : j = k
  · rw [e]; exact hk
  · exact h j (by omega)
theorem goodRep_no {me n : Int} {T : List (List RowD)} {L : List LeadD} {k : Nat} (h : k < L.length) (hk : stepL n me L k = false) : goodRep me n T L = false := by
  have : leadsB n me L = false := by
    unfold leadsB
    rw [List.all_eq_false]
    exact ⟨k, List.mem_range.2 h, by rw [hk]; simp⟩
  unfold goodRep
  rw [this, Bool.and_false, Bool.and_false]
theorem goodRep_yes {me n : Int} {T : List (List RowD)} {L : List LeadD} (h1 : goodTab n T = true) (h2 : inB me 0 (n - 1) = true) (h : ∀ j, j < L.length → stepL n me L j = true) : goodRep me n T L = true := by
  have : leadsB n me L = true := by
    unfold leadsB
    rw [List.all_eq_true]
    exact fun j hj => h j (List.mem_range.1 hj)
  unfold goodRep
  rw [h1, h2, this]; rfl
theorem step_bad {n me : Int} {L : List LeadD} {k : Nat} (h : k < L.length) (hb : leadB n me L[k] = false) : stepL n me L k = false := by
  unfold stepL
  rw [List.getElem?_eq_getElem h]
  simp only [hb, Bool.false_and]
theorem step_first {n me : Int} {L : List LeadD} (h : 0 < L.length) (hb : leadB n me L[0] = true) : stepL n me L 0 = true := by
  unfold stepL
  rw [List.getElem?_eq_getElem h]
  simp only [hb, Bool.true_and]
theorem step_next {n me : Int} {L : List LeadD} {j : Nat} (h : j + 1 < L.length) (hb : leadB n me L[j + 1] = true) : stepL n me L (j + 1) = lexD (L[j]'(by omega)) L[j + 1] := by
  unfold stepL
  rw [List.getElem?_eq_getElem h]
  simp only [hb, Bool.true_and, List.getElem?_eq_getElem (show j < L.length by omega)]
theorem goodTab_isGrp {n : Int} {T : List (List RowD)} (h : goodTab n T = true) : isGrp n = true := by
  cases hg : isGrp n with
  | true => rfl
  | false => rw [goodTab_grp hg] at h; cases h
set_option maxHeartbeats 8000000 in
set_option maxRecDepth 100000 in
theorem specGoodRep_any (me n : Int) (u v : Value) (T : List (List RowD)) (L : List LeadD) (w : World) (hu : Rowzz w u T) (hv : Leadz w v L) :
    Calls Try.prog 7 #[.agg #[.int .i64 me, .int .i64 n, u, v]] w (BoolExt (goodRep me n T L) w) := by
  obtain ⟨wb, hwb⟩ : ∃ wb, wb = w.alloc (.cells #[.int .i64 me, .int .i64 n, u, v] 35) := ⟨_, rfl⟩
  have x0 : Ext w wb := by rw [hwb]; exact Ext.alloc1 _ _
  have HR := Lib.hid (show RepAt wb w.heap.size me n u v by rw [hwb]; exact repAt_new _ _ _ _ _ _)
  have HU := Lib.hid (hu.ext x0)
  have HZ : Hid (w.heap.size < wb.heap.size) := Lib.hid (by rw [hwb]; simp)
  have HX0 := Lib.hid x0
  have HW := Lib.hid hwb
  obtain ⟨av, cv, rfl, hlv, _, hcv⟩ := hv
  unfold maxLen at hlv
  have HCV := Lib.hid hcv
  clear hu hwb x0 hcv
  go_enter Try.func7, Try.ntmps7
  obtain ⟨p0, p1, p2, p3⟩ := HR.out
  go_wp2_with fail
  rw [← HW.out]
  refine (specGoodTable_any n u T _ HU.out).mono ?_
  rintro e w1 ⟨rfl, x1⟩
  have HX1 := Lib.hid (HX0.out.trans x1)
  have HX1w := Lib.hid x1
  clear x1 p0 p1 p2 p3 HX0
  cases hg : goodTab n T with
  | false =>
    have HO : Hid (goodRep me n T L = false) := Lib.hid (by unfold goodRep; rw [hg]; rfl)
    go_wp2
    go_ret
    exact ⟨by rw [HO.out]; rfl, HX1.out⟩
  | true =>
    have HG := Lib.hid hg
    have HN := Lib.hid (goodTab_isGrp hg)
    obtain ⟨h3, h5⟩ : 3 ≤ n ∧ n ≤ 5 := by rcases isGrp_of HN.out with rfl | rfl <;> omega
    clear hg
    obtain ⟨p0, p1, p2, p3⟩ := HR.out.ext HX1w.out
    go_wp2_with fail
    refine (l1In_any me 0 (n - 1) _).mono ?_
    rintro e w2 ⟨rfl, rfl⟩
    cases hm : inB me 0 (n - 1) with
    | false =>
      have HO : Hid (goodRep me n T L = false) := Lib.hid (by unfold goodRep; rw [hm, Bool.false_and, Bool.and_false])
      go_wp2
      go_ret
      exact ⟨by rw [HO.out]; rfl, HX1.out⟩
    | true =>
      have HM := Lib.hid hm
      clear hm
      go_wp2
      clear p0 p1 p2 p3
      go_loopw [3, 23] (fun _ i wr => ∃ k : Nat, k ≤ L.length ∧ i = .int .i64 k ∧ Hid (∀ j, j < k → stepL n me L j = true) ∧ Hid (Ext w wr) ∧ Hid (Ext wb wr)) (fun _ i _ => L.length - (intOf i).toNat)
      case atStart => exact ⟨0, Nat.zero_le _, rfl, Lib.hid (fun j h => by omega), HX1, HX1w⟩
      case round =>
        obtain ⟨k, hk, rfl, HT, HX, HXW⟩ := hrel
        by_cases hlt : k < L.length
        · obtain ⟨b, off, rfl, dv⟩ := HCV.out (by omega)
          obtain ⟨d, hd⟩ : ∃ d, d = L[k] := ⟨_, rfl⟩
          obtain ⟨u1, u2, u3, u4, hy, iy⟩ := dv k hlt
          rw [← hd] at hy iy
          obtain ⟨b1, c1, rfl, _⟩ := id iy.i1
          obtain ⟨b2, c2, rfl, _⟩ := id iy.i2
          obtain ⟨b3, c3, rfl, _⟩ := id iy.i3
          obtain ⟨b4, c4, rfl, _⟩ := id iy.i4
          have HD := Lib.hid hd
          have HLT := Lib.hid hlt
          have HDV := Lib.hid dv
          obtain ⟨a0, a1, a2, a3, a4, a5, a6, a7, a8, a9, a10, a11, a12, a13, a14, a15⟩ := leadIn_cells (hy.ext HX.out)
          obtain ⟨p0, p1, p2, p3⟩ := HR.out.ext HXW.out
          have hbw : w.heap.size < wr.heap.size := Nat.lt_of_lt_of_le HZ.out HXW.out.size
          obtain ⟨w2, hw2⟩ : ∃ w2, w2 = wr.alloc (.cells #[.int .i64 d.rp, .int .i64 d.no, .int .i64 d.bl, .int .i64 d.ph, .int .i64 d.k, .int .i64 d.i, .int .i64 d.f, .int .i64 d.t, .int .i64 d.a, .int .i64 d.s1, .slice b1 d.l1.length c1, .int .i64 d.s2, .slice b2 d.l2.length c2, .bool d.sm, .slice b3 d.who.length c3, .slice b4 d.seen.length c4] 69) := ⟨_, rfl⟩
          have x2 : Ext wr w2 := by rw [hw2]; exact Ext.alloc1 _ _
          have ST : Hid (w2.cell? ⟨wr.heap.size, 0, none⟩ = some (.int .i64 d.rp) ∧ w2.cell? ⟨wr.heap.size, 1, none⟩ = some (.int .i64 d.no)) := Lib.hid (by rw [hw2]; constructor <;> go_simp)
          have SZ : Hid (wr.heap.size < w2.heap.size) := Lib.hid (by rw [hw2]; simp)
          have IY := Lib.hid ((iy.ext HX.out).ext x2)
          have HW2 := Lib.hid hw2
          have X2 := Lib.hid (HX.out.trans x2)
          have X2W := Lib.hid (HXW.out.trans x2)
          clear dv hd hy iy hw2 x2
          go_wp2_with fail
          rw [← HW2.out]
          refine (l8Lead_any n me d _ _ _ _ _ IY.out HN.out).mono ?_
          rintro e w3 ⟨rfl, x3⟩
          have X3 := Lib.hid (X2.out.trans x3)
          have X3W := Lib.hid (X2W.out.trans x3)
          obtain ⟨s0, s1⟩ := ST.out
          have s0 := x3.cell s0
          have s1 := x3.cell s1
          have hsz : wr.heap.size < w3.heap.size := Nat.lt_of_lt_of_le SZ.out x3.size
          clear x3 p0 p1 p2 p3 IY HW2 X2 X2W ST SZ a0 a1 a2 a3 a4 a5 a6 a7 a8 a9 a10 a11 a12 a13 a14 a15
          as_aux_lemma =>
            cases hb : leadB n me d with
            | false =>
              clear s0 s1
              have HO : Hid (goodRep me n T L = false) := Lib.hid (goodRep_no HLT.out (step_bad HLT.out (by rw [← HD.out]; exact hb)))
              go_wp2
              go_ret
              exact ⟨by rw [HO.out]; rfl, by first | exact X3.out | exact X3.out.alloc _⟩
            | true =>
              rcases Nat.eq_zero_or_pos k with h0 | h0
              · have e0 : ¬ ((0 : Int) < (k : Int)) := by omega
                as_aux_lemma =>
                  have H0 := Lib.hid h0
                  have HB := Lib.hid hb
                  clear s0 s1 h0 hb
                  have HT1 : Hid (∀ j, j < k + 1 → stepL n me L j = true) := Lib.hid (step_succ HT.out (by have h := H0.out; have hd := HD.out; subst h; exact step_first HLT.out (by rw [← hd]; exact HB.out)))
                  go_wp2
                  go_roundw
                  case rel => exact ⟨k + 1, by omega, by go_num, HT1, Lib.hid (by first | exact X3.out | exact X3.out.alloc _), Lib.hid (by first | exact X3W.out | exact X3W.out.alloc _)⟩
                  case measure => simp [intOf]; omega
              · obtain ⟨j, hj⟩ : ∃ j, j = k - 1 := ⟨_, rfl⟩
                have hjl : j < L.length := by omega
                have e1 : (k : Int) - 1 = (j : Int) := by omega
                have e0 : (0 : Int) < (k : Int) := by omega
                obtain ⟨p, hp⟩ : ∃ p, p = L[j] := ⟨_, rfl⟩
                obtain ⟨v1, v2, v3, v4, hq, iq⟩ := HDV.out j hjl
                rw [← hp] at hq iq
                obtain ⟨g1, f1, rfl, _⟩ := iq.i1
                obtain ⟨g2, f2, rfl, _⟩ := iq.i2
                obtain ⟨g3, f3, rfl, _⟩ := iq.i3
                obtain ⟨g4, f4, rfl, _⟩ := iq.i4
                obtain ⟨q0, q1, q2, q3, q4, q5, q6, q7, q8, q9, q10, q11, q12, q13, q14, q15⟩ := leadIn_cells (hq.ext X3.out)
                obtain ⟨p0, p1, p2, p3⟩ := HR.out.ext X3W.out
                have HS : Hid (stepL n me L k = lexD p d) := Lib.hid (by
                  have hkj : k = j + 1 := by omega
                  subst hkj
                  rw [HD.out] at hb ⊢
                  rw [hp]
                  exact step_next HLT.out hb)
                clear hq iq hp hj h0 hb
                have hbw3 : w.heap.size < w3.heap.size := Nat.lt_of_lt_of_le HZ.out X3W.out.size
                by_cases q1 : d.rp < p.rp
                · skip
                  as_aux_lemma =>
                    have HO : Hid (goodRep me n T L = false) := Lib.hid (goodRep_no HLT.out (by rw [HS.out]; unfold lexD; rw [decide_eq_true q1]; rfl))
                    go_wp2
                    go_ret
                    exact ⟨by rw [HO.out]; rfl, by first | exact X3.out | exact X3.out.alloc _⟩
                · cases q2 : (p.rp == d.rp) with
                  | false =>
                    as_aux_lemma =>
                      have HT1 : Hid (∀ j, j < k + 1 → stepL n me L j = true) := Lib.hid (step_succ HT.out (by rw [HS.out]; unfold lexD; rw [decide_eq_false q1, q2]; rfl))
                      go_wp2
                      go_roundw
                      case rel => exact ⟨k + 1, by omega, by go_num, HT1, Lib.hid (by first | exact X3.out | exact X3.out.alloc _), Lib.hid (by first | exact X3W.out | exact X3W.out.alloc _)⟩
                      case measure => simp [intOf]; omega
                  | true =>
                    by_cases q3 : d.no ≤ p.no
                    · skip
                      as_aux_lemma =>
                        have HO : Hid (goodRep me n T L = false) := Lib.hid (goodRep_no HLT.out (by rw [HS.out]; unfold lexD; rw [decide_eq_false q1, q2, decide_eq_true q3]; rfl))
                        go_wp2
                        go_ret
                        exact ⟨by rw [HO.out]; rfl, by first | exact X3.out | exact X3.out.alloc _⟩
                    · skip
                      as_aux_lemma =>
                        have HT1 : Hid (∀ j, j < k + 1 → stepL n me L j = true) := Lib.hid (step_succ HT.out (by rw [HS.out]; unfold lexD; rw [decide_eq_false q1, q2, decide_eq_false q3]; rfl))
                        go_wp2
                        go_roundw
                        case rel => exact ⟨k + 1, by omega, by go_num, HT1, Lib.hid (by first | exact X3.out | exact X3.out.alloc _), Lib.hid (by first | exact X3W.out | exact X3W.out.alloc _)⟩
                        case measure => simp [intOf]; omega
        · obtain rfl : k = L.length := by omega
          have HO : Hid (goodRep me n T L = true) := Lib.hid (goodRep_yes HG.out HM.out HT.out)
          go_wp2
          go_ret
          exact ⟨by rw [HO.out]; rfl, HX.out⟩
end Go.Proofs.Ytbffkidkfannhaa
